/- The document's Done. -/
import Derived.Test.YthjggjjocfbjcaaTellP
import Derived.Test.YthjggjjocfbjcaaTellS
namespace Go.Proofs.Ythjggjjocfbjcaa
open Go.RowKit

/-- The loop of Done, over what is kept of the client. -/
def DnI (w5 wr : World) (g : Nat) (cl fl : Int) (ks : List KV) (r : Int) (reply : List UInt8) (t : Nat) (b : Bool) : Prop :=
  ∃ (kv : Value) (Q : List KV), Q.map KV.flat ++ pgo (r, reply) b ((ks.drop t).map KV.flat) = pgo (r, reply) false (ks.map KV.flat) ∧ (∀ k ∈ ks.take t, k.num ≠ r) ∧ Q.length ≤ t + 1 ∧ (b = false → Q.length ≤ t) ∧
    CBlk wr g (.int .i64 cl) (.int .i64 fl) kv ∧ wr.ownsRow w5.heap.size 36 2 kv Q.length (Q.flatMap KV.cells) ∧ Kp (fun k => k = g) w5 wr ∧ w5.heap.size ≤ wr.heap.size ∧
    (∀ q ∈ Q, q ∈ ks ∨ (Own wr w5.heap.size (.slice q.a q.body.length q.c) q.body ∧ q.body.length ≤ SMALL))

theorem dn_own {ws ws' : World} {g base f : Nat} {kv : Value} {Fc : List Value} {ks Q : List KV} (h : ∀ q ∈ Q, q ∈ ks ∨ (Own ws base (.slice q.a q.body.length q.c) q.body ∧ q.body.length ≤ SMALL)) (hk : Kp (fun k => k = g ∨ kv.ownBlock = some k) ws ws') (hg : g < base) (hr : ws.ownsRow base 36 2 kv f Fc) : ∀ q ∈ Q, q ∈ ks ∨ (Own ws' base (.slice q.a q.body.length q.c) q.body ∧ q.body.length ≤ SMALL) := by
  intro q hq
  rcases h q hq with h | ⟨h, hs⟩
  · exact .inl h
  · refine .inr ⟨h.kp hk (fun k hk' e => ?_), hs⟩
    rcases e with e | e
    · have := (h.lt k hk').1; omega
    · exact own_off h hr (by decide) k hk' e

set_option linter.unusedVariables false in
set_option maxRecDepth 100000 in
set_option maxHeartbeats 2000000 in
theorem doner_bad (a : Option Addr) (n c : Nat) (L : List CV) (cl r : Int) (ra : Option Addr) (rl rc : Nat) (w : World) (hL : L.length = n) (h : LAt w 0 a L) (hn : n ≤ 9000000000000000000) (hbad : rightP (L.map CV.flat) = false ∨ (∀ y ∈ L, y.id = cl → r ≤ y.fl ∨ 4611686018427387904 < r)) :
    Calls Try.prog 19 #[.slice a n c, .int .i64 cl, .int .i64 r, .slice ra rl rc] w (RDonePost ([], 2) w) := by
  replace hL := hid hL
  go_enter Try.func19, Try.ntmps19
  go_wp2_with fail
  refine (find_any a n c 0 L cl _ hL.out h hn).mono ?_
  rintro e w4 ⟨⟨fr, rfl, hfr⟩, b4⟩
  have h4 := h.below b4
  replace hbad := hid hbad
  replace hfr := hid hfr
  go_wp2_with fail
  refine (rightr_any a n c 0 L _ hL.out h4 hn).mono ?_
  rintro e w2 ⟨rfl, b2⟩
  have B2 := bnext b4 b2
  cases hr : rightP (L.map CV.flat) with
  | false =>
    replace hr := hid hr
    go_wp2
    (try simp only [Exit.inBlock, Exit.then])
    refine bodyPost_ret (results_tmp2 rfl _ _ _) rfl ?_
    exact doner_none 2 w w2 B2
  | true =>
    replace hr := hid hr
    rcases hfr.out with ⟨i, hi, rfl, hic⟩ | ⟨rfl, hno⟩
    · have hin : i < n := by rw [← hL.out]; exact hi
      obtain ⟨b, o, e⟩ := h.place (by intro e; rw [e] at hi; simp at hi)
      subst e
      have x1 := ((h4.below b2).one i hi).2.1
      have hcond : r ≤ L[i].fl ∨ 4611686018427387904 < r := by
        rcases hbad.out with hb | hb
        · rw [hr.out] at hb; cases hb
        · exact hb _ (List.getElem_mem hi) hic
      generalize L[i].fl = fl at x1 hcond
      replace hic := hid hic
      by_cases q1 : r ≤ fl
      · have d1 : decide (r ≤ fl) = true := decide_eq_true q1
        replace q1 := hid q1
        replace hcond := hid hcond
        go_wp2
        (try simp only [Exit.inBlock, Exit.then])
        refine bodyPost_ret (results_tmp2 rfl _ _ _) rfl ?_
        exact doner_none 2 w w2 B2
      · have d1 : decide (r ≤ fl) = false := decide_eq_false q1
        have d2 : decide (4611686018427387904 < r) = true := decide_eq_true (by omega)
        replace q1 := hid q1
        replace hcond := hid hcond
        go_wp2
        (try simp only [Exit.inBlock, Exit.then])
        refine bodyPost_ret (results_tmp2 rfl _ _ _) rfl ?_
        exact doner_none 2 w w2 B2
    · replace hno := hid hno
      go_wp2
      (try simp only [Exit.inBlock, Exit.then])
      refine bodyPost_ret (results_tmp2 rfl _ _ _) rfl ?_
      exact doner_none 2 w w2 B2

set_option linter.unusedVariables false in
set_option linter.unusedSimpArgs false in
set_option maxRecDepth 100000 in
set_option maxHeartbeats 16000000 in
theorem doner_ok (a : Option Addr) (n c : Nat) (L : List CV) (cl r : Int) (ra : Option Addr) (rl rc : Nat) (reply : List UInt8) (w : World) (hL : L.length = n) (h : LAt w 0 a L) (hR : RightC (L.map CV.flat)) (hyes : ∃ x ∈ L, x.id = cl) (hr1 : r ≤ 4611686018427387904) (hfl : (curC (L.map CV.flat) cl).1 < r) (hrl : reply.length = rl) (hrs : rl ≤ 140737488355328) (hat : At w ra reply) (R : List PC × Int) (hRR : R = if (getG (curC (L.map CV.flat) cl).2 r).isSome = true then ([], 2) else if 65536 < rl then ([], 3) else if (curC (L.map CV.flat) cl).2.length = 8 then ([], 5) else (putG (L.map CV.flat) (cl, (curC (L.map CV.flat) cl).1, putG (curC (L.map CV.flat) cl).2 (r, reply)), 0)) :
    Calls Try.prog 19 #[.slice a n c, .int .i64 cl, .int .i64 r, .slice ra rl rc] w (RDonePost R w) := by
  have hn16 : n ≤ 16 := by have := hR.len; rw [List.length_map] at this; omega
  have hn : n ≤ 9000000000000000000 := by omega
  have hr := hid ((right_iff _).2 hR)
  replace hL := hid hL
  replace hR := hid hR
  replace hyes := hid hyes
  replace hrl := hid hrl
  replace hat := hid hat
  replace hRR := hid hRR
  go_enter Try.func19, Try.ntmps19
  go_wp2_with fail
  refine (find_any a n c 0 L cl _ hL.out h hn).mono ?_
  rintro e w4 ⟨⟨fr, rfl, hfr⟩, b4⟩
  have h4 := h.below b4
  obtain ⟨i, hi, rfl, hic⟩ : ∃ i : Nat, ∃ hi : i < L.length, fr = (i : Int) ∧ L[i].id = cl := by
    rcases hfr with ⟨i, hi, e1, he⟩ | ⟨_, hno⟩
    · exact ⟨i, hi, e1, he⟩
    · obtain ⟨x, hx, he⟩ := hyes.out
      exact absurd he (hno x hx)
  replace hfr := hid hfr
  go_wp2_with fail
  refine (rightr_any a n c 0 L _ hL.out h4 hn).mono ?_
  rintro e w2 ⟨rfl, b2⟩
  rw [hr.out]
  have B2 := bnext b4 b2
  have h2 := h.below B2
  have hin : i < n := by rw [← hL.out]; exact hi
  obtain ⟨b, o, e⟩ := h.place (by intro e; rw [e] at hi; simp at hi)
  subst e
  obtain ⟨q, hq⟩ : ∃ q, L[i] = q := ⟨_, rfl⟩
  obtain ⟨id, fl, ka, kc, ks⟩ := q
  have hcid : id = cl := by rw [hq] at hic; exact hic
  subst hcid
  obtain ⟨m, hm⟩ : ∃ m, ks.length = m := ⟨_, rfl⟩
  obtain ⟨x0, x1, x2⟩ := h2.one i hi
  rw [hq] at x0 x1 x2
  simp only at x0 x1 x2
  rw [hm] at x2
  have hmemF : (id, fl, ks.map KV.flat) ∈ L.map CV.flat := List.mem_map.2 ⟨L[i], List.getElem_mem hi, by rw [hq]; rfl⟩
  have hcur : curC (L.map CV.flat) id = (fl, ks.map KV.flat) := by
    have := up_get hR.out.up hmemF
    unfold curC
    rw [this]
    rfl
  rw [hcur] at hfl
  have hRR2 := hRR.out
  rw [hcur] at hRR2
  replace hRR2 := hid hRR2
  have hfl2 : fl < r := hfl
  have d1 : decide (r ≤ fl) = false := decide_eq_false (by omega)
  have d2 : decide (4611686018427387904 < r) = false := decide_eq_false (by omega)
  have hka := hid (show KAt w 0 ka ks by have := h.kept _ (List.getElem_mem hi); rw [hq] at this; exact this)
  have hk8 := hid (show ks.length ≤ 8 by have := hR.out.kept (id, fl, ks.map KV.flat) hmemF; simpa using this)
  have hm8 : m ≤ 8 := by have := hk8.out; omega
  replace hq := hid hq
  replace hm := hid hm
  replace hic := hid hic
  replace h4 := hid h4
  replace h2 := hid h2
  replace hcur := hid hcur
  replace hmemF := hid hmemF
  replace hfl := hid hfl
  replace hfl2 := hid hfl2
  have b3 := below_lit w2 (.cells #[.int .i64 id, .int .i64 fl, .slice none 0 0] 34)
  have p3 := CBlk.new w2 (.int .i64 id) (.int .i64 fl) (.slice none 0 0)
  have B5 := bnext B2 b3
  have hgl : w.heap.size ≤ w2.heap.size := B2.size
  go_wp2_with fail
  obtain ⟨w5, hw5⟩ : ∃ W, W = w2.alloc (.cells #[.int .i64 id, .int .i64 fl, .slice none 0 0] 34) := ⟨_, rfl⟩
  rw [← hw5] at b3 p3 B5 ⊢
  clear hw5 x0 x1 x2
  have hgs : w2.heap.size < w5.heap.size := p3.lt
  generalize w2.heap.size = g at p3 hgl hgs ⊢
  replace p3 := hid p3
  go_loopw [12, 13] (fun v i wr => ∃ (t : Nat) (bb : Bool), t ≤ m ∧ v = .bool bb ∧ i = .int .i64 (t : Int) ∧ DnI w5 wr g id fl ks r reply t bb) (fun _ i _ => m - (intOf i).toNat)
  case atStart => exact ⟨0, false, Nat.zero_le _, rfl, rfl, _, [], rfl, by simp, by simp, by simp, p3.out, World.ownsRow_nil _ _ _ _, Kp.refl _ _, Nat.le_refl _, by simp⟩
  case round =>
    obtain ⟨t, bb, ht, rfl, rfl, kv, Q, hpl, hne, hQl, hfb, hcb, hrow, hkp, hsz, hQo⟩ := hrel
    have Br : Below w.heap.size w wr := B5.trans (hkp.below (fun k e => by omega) B5.size)
    obtain ⟨x0, x1, x2⟩ := (h.below Br).one i hi
    rw [hq.out] at x0 x1 x2
    simp only at x0 x1 x2
    rw [hm.out] at x2
    obtain ⟨f, hf⟩ : ∃ f, Q.length = f := ⟨_, rfl⟩
    obtain ⟨Fc, hFc⟩ : ∃ Fc, Q.flatMap KV.cells = Fc := ⟨_, rfl⟩
    rw [hf] at hQl hfb
    rw [hf, hFc] at hrow
    replace hpl := hid hpl
    replace hne := hid hne
    replace hf := hid hf
    replace hFc := hid hFc
    replace hfb := hid hfb
    by_cases htm : t < m
    · have htk : t < ks.length := by rw [hm.out]; exact htm
      obtain ⟨kb, ko, e⟩ := hka.out.place (by intro e; rw [e] at htk; simp at htk)
      subst e
      obtain ⟨y, hy⟩ : ∃ y, ks[t] = y := ⟨_, rfl⟩
      obtain ⟨num, ya, yc, body⟩ := y
      obtain ⟨len, hlen⟩ : ∃ l, body.length = l := ⟨_, rfl⟩
      have z := (hka.out.below Br).one t htk
      rw [hy] at z
      simp only at z
      rw [hlen] at z
      obtain ⟨z0, z1⟩ := z
      replace hlen := hid hlen
      replace hy := hid hy
      by_cases s2 : num = r
      · have g2 : (num == r) = true := by simpa using s2
        have hdup : (getG (fl, ks.map KV.flat).2 r).isSome = true := by
          have hmem : (num, body) ∈ ks.map KV.flat := List.mem_map.2 ⟨ks[t], List.getElem_mem htk, by rw [hy.out]; rfl⟩
          have := up_get (hR.out.kup (id, fl, ks.map KV.flat) hmemF.out) hmem
          show (getG (ks.map KV.flat) r).isSome = true
          rw [← s2, this]
          rfl
        have hRe : R = ([], 2) := by rw [hRR2.out, if_pos hdup]
        subst hRe
        have bx := bnext Br (below_lit wr (.cells #[.int .i64 num, .slice ya len yc] 36))
        replace s2 := hid s2
        replace hdup := hid hdup
        replace hcb := hid hcb
        replace hrow := hid hrow
        replace hQo := hid hQo
        go_wp2
        (try simp only [Exit.inBlock, Exit.then])
        refine bodyPost_ret (results_tmp2 rfl _ _ _) rfl ?_
        exact doner_none 2 w _ bx
      · have g2 : (num == r) = false := by simpa using s2
        have hrl0 := hid (show ∀ k, kv.ownBlock = some k → k < wr.heap.size from fun k hk => (World.ownsRow.lt hrow k hk).2)
        have hcl0 := hid (show g < wr.heap.size from hcb.lt)
        have bx := below_lit wr (.cells #[.int .i64 num, .slice ya len yc] 36)
        have px := TBlk.new 36 wr (.int .i64 num) (.slice ya len yc)
        have hcbx := hcb.below bx
        have hrowx := owns_below hrow bx
        have hkpx := hkp.then bx
        have hszx := Nat.le_trans hsz bx.size
        have hQox : ∀ q ∈ Q, q ∈ ks ∨ (Own (wr.alloc (.cells #[.int .i64 num, .slice ya len yc] 36)) w5.heap.size (.slice q.a q.body.length q.c) q.body ∧ q.body.length ≤ SMALL) := fun q hq => (hQo q hq).imp (fun h => h) (fun h => ⟨h.1.below bx, h.2⟩)
        have Bx := bnext Br bx
        clear hcb hrow hkp hsz hQo
        replace s2 := hid s2
        have hs3 : Hid (¬ num = r) := hid s2.out
        by_cases s1 : r < num
        · have g1 : decide (r < num) = true := decide_eq_true s1
          replace s1 := hid s1
          cases bb with
          | false =>
            have hft : f ≤ t := hfb.out rfl
            have hcbl := hcl0
            have hrowl := hrl0
            go_wp2_with fail
            obtain ⟨wx, hwx⟩ : ∃ W, W = wr.alloc (.cells #[.int .i64 num, .slice ya len yc] 36) := ⟨_, rfl⟩
            rw [← hwx] at px hcbx hrowx hkpx hszx hQox Bx ⊢
            clear hwx bx x0 x1 x2 z0 z1
            have hcb := hcbx
            have hrow := hrowx
            have hkp := hkpx
            have hsz := hszx
            have hQo := hQox
            have Bs := Bx
            clear hcbx hrowx hkpx hszx hQox Bx
            have bd := drew_below wx
            have k2 := hcb.cell2
            have k2d : wx.drew.cell? ⟨g, 2, none⟩ = some kv := k2
            have hbg := World.block_lt_of_cell? _ _ k2d
            have hcp2 : Calls Try.prog 55 #[.slice ra rl rc] wx.drew fun e wc => ∃ a5 c5 a7 c7 w7, e = .returned (.slice a5 rl c5) ∧ wc.cell? ⟨g, 2, none⟩ = some kv ∧ g < wc.heap.size ∧ Hid ((Builtin.append_ #[32, 32] 32 #[kv, .slice (some ⟨wc.heap.size, 0, none⟩) 1 1]).run Try.prog (wc.alloc (.cells #[.int .i64 r, .slice a5 rl c5] 36)) = .ok (.slice a7 (f + 1) c7) w7) ∧ w7.cell? ⟨g, 2, none⟩ = some kv ∧ w7.frozen? ⟨g, 2, none⟩ = false ∧
                Hid (CBlk (w7.setCell ⟨g, 2, none⟩ (.slice a7 (f + 1) c7)) g (.int .i64 id) (.int .i64 fl) (.slice a7 (f + 1) c7)) ∧ Hid ((w7.setCell ⟨g, 2, none⟩ (.slice a7 (f + 1) c7)).ownsRow w5.heap.size 36 2 (.slice a7 (f + 1) c7) (f + 1) (Fc ++ [.int .i64 r, .slice a5 rl c5])) ∧
                Hid (Kp (fun k => k = g) w5 (w7.setCell ⟨g, 2, none⟩ (.slice a7 (f + 1) c7))) ∧ Hid (∀ q ∈ Q ++ [(⟨r, a5, c5, reply⟩ : KV)], q ∈ ks ∨ (Own (w7.setCell ⟨g, 2, none⟩ (.slice a7 (f + 1) c7)) w5.heap.size (.slice q.a q.body.length q.c) q.body ∧ q.body.length ≤ SMALL)) ∧ Hid (Kp (fun k => k = g ∨ kv.ownBlock = some k) wx (w7.setCell ⟨g, 2, none⟩ (.slice a7 (f + 1) c7))) := by
              refine (copyb_any ra rc rl reply wx.drew hrl.out hrs ((hat.out.below Bs).below bd)).mono ?_
              rintro e wc ⟨a5, c5, rfl, ho5, hb5⟩
              have y3 : wc.cell? ⟨g, 2, none⟩ = some kv := (hb5.cell (p := ⟨g, 2, none⟩) hbg).trans k2d
              have B5 := bnext bd hb5
              have hcc := hcb.below B5
              have hrc := owns_below hrow B5
              obtain ⟨a7, c7, w7, hrun, y7, f7, hc7, hr7, hk7, -⟩ := grow36 hcc hrc hgs (Nat.le_trans hsz B5.size) r a5 rl c5 (by omega)
              have hkw : Kp (fun k => k = g ∨ kv.ownBlock = some k) wx (w7.setCell ⟨g, 2, none⟩ (.slice a7 (f + 1) c7)) := (Kp.of_below B5).trans (hk7.mono (fun k _ h => h)) |>.mono (fun k _ h => h)
              refine ⟨a5, c5, a7, c7, w7, rfl, y3, World.block_lt_of_cell? _ _ y3, hid hrun, y7, f7, hid hc7, hid hr7, hid ?_, hid ?_, hid hkw⟩
              · exact hkp.next hkw (fun k hk e => by
                  rcases e with e | e
                  · exact e
                  · have := (World.ownsRow.lt hrow k e).1; omega)
              · intro q hq
                rcases List.mem_append.1 hq with hq | hq
                · exact dn_own hQo hkw hgs hrow q hq
                · rw [List.mem_singleton.1 hq]
                  refine .inr ⟨?_, by show reply.length ≤ SMALL; unfold SMALL; have := hrl.out; omega⟩
                  have ho6 : Own wc w5.heap.size (.slice a5 reply.length c5) reply := by rw [hrl.out]; exact ho5.le (Nat.le_trans hsz bd.size)
                  refine ho6.kp hk7 (fun k hk' e => ?_)
                  rcases e with e | e
                  · have := (ho6.lt k hk').1; omega
                  · exact own_off ho6 hrc (by decide) k hk' e
            replace hcb := hid hcb
            replace hrow := hid hrow
            replace hkp := hid hkp
            replace hQo := hid hQo
            go_region_law (first
              | (refine step_call rfl 55 _ _ rfl Try.f55 Try.func55 (by kernel_rfl) (by kernel_rfl) #[.slice ra rl rc] (by simp [Act.eval, Act.put]) hcp2 ?_; rintro e wc ⟨a5, c5, a7, c7, w7, rfl, y3, l5, hrun, y7, f7, hc8, hr8, hkp8, hQ8, hkw8⟩; refine ⟨_, rfl, ?_⟩)
              | (refine step_ap2 rfl (.tmp 76) (.tmp 81) 32 rfl rfl kv (.slice (some ⟨wc.heap.size, 0, none⟩) 1 1) _ rfl rfl hrun.out ?_))
            all_goals
              obtain ⟨wy, hwy⟩ : ∃ W, W = w7.setCell ⟨g, 2, none⟩ (.slice a7 (f + 1) c7) := ⟨_, rfl⟩
              rw [← hwy] at hc8 hr8 hkp8 hQ8 hkw8 ⊢
              clear hwy k2 k2d y3 l5 y7 f7 hrun
              have hcb2 := hc8.out
              have hrow2 := hr8.out
              have hkp2 := hkp8.out
              have hsz2 : w5.heap.size ≤ wy.heap.size := hkp2.size
              have hQo2 := hQ8.out
              have px2 : TBlk 36 wy wr.heap.size (.int .i64 num) (.slice ya len yc) := by
                unfold TBlk
                rw [hkw8.out.block wr.heap.size px.lt (fun e => by
                  rcases e with e | e
                  · have := hcbl.out; omega
                  · have := hrowl.out _ e; omega)]
                exact px
              clear hcb hrow hkp hsz hQo px hc8 hr8 hkp8 hQ8
              have hcb := hcb2
              have hrow := hrow2
              have hkp := hkp2
              have hsz := hsz2
              have hQo := hQo2
              have px := px2
              clear hcb2 hrow2 hkp2 hsz2 hQo2 px2
              have gw := grow36 hcb hrow hgs hsz num ya len yc (by omega)
              obtain ⟨a9, c9, w9, hrun9, y9, f9, hc9, hr9, hk9, -⟩ := gw
              have k2 := hcb.cell2
              have glt := hcb.lt
              have t0 := px.cell0
              have t1 := px.cell1
              have xlt := px.lt
              have hI : DnI w5 (w9.setCell ⟨g, 2, none⟩ (.slice a9 ((f + 1) + 1) c9)) g id fl ks r reply (t + 1) true := by
                have hkp9 : Kp (fun k => k = g) w5 (w9.setCell ⟨g, 2, none⟩ (.slice a9 ((f + 1) + 1) c9)) := hkp.next hk9 (fun k hk e => by
                  rcases e with e | e
                  · exact e
                  · have := (World.ownsRow.lt hrow k e).1; omega)
                refine ⟨_, Q ++ [(⟨r, a5, c5, reply⟩ : KV)] ++ [(⟨num, ya, yc, body⟩ : KV)], ?_, ?_, ?_, ?_, hc9, ?_, hkp9, hkp9.size, ?_⟩
                · rw [← hpl.out, pg_step htk, hy.out]
                  simp [s1.out, KV.flat]
                · intro k hk
                  rw [List.take_succ_eq_append_getElem htk] at hk
                  rcases List.mem_append.1 hk with hk | hk
                  · exact hne.out k hk
                  · rw [List.mem_singleton.1 hk, hy.out]; exact s2.out
                · simp [hf.out]; omega
                · intro hb; cases hb
                · have h1 := hf.out
                  have h2 := hFc.out
                  have h3 := hlen.out
                  subst h1 h2 h3
                  simpa [KV.cells, hrl.out] using hr9
                · have ho9 := dn_own hQo hk9 hgs hrow
                  intro q hq
                  rcases List.mem_append.1 hq with hq | hq
                  · exact ho9 q hq
                  · rw [List.mem_singleton.1 hq]; exact .inl (hy.out ▸ List.getElem_mem htk)
              replace hI := hid hI
              replace hcb := hid hcb
              replace hrow := hid hrow
              replace px := hid px
              replace hc9 := hid hc9
              replace hr9 := hid hr9
              replace hrun9 := hid hrun9
              replace hQo := hid hQo
              go_wp2_with (at_builtin; refine Hid.out ?_)
              refine hid ?_
              refine wpList_ap rfl (.tmp 85) (.tmp 87) 32 rfl rfl (.slice a7 (f + 1) c7) (.slice (some ⟨wy.heap.size, 0, none⟩) 1 1) _ rfl rfl hrun9.out ?_
              go_wp2_with fail
              go_roundw
              case rel => exact ⟨t + 1, _, by omega, rfl, by go_num, hI.out⟩
              case measure => simp [intOf]; omega
          | true =>
            have hcb := hcbx
            have hrow := hrowx
            have hkp := hkpx
            have hsz := hszx
            have hQo := hQox
            clear hcbx hrowx hkpx hszx hQox
            have gw := grow36 hcb hrow hgs hsz num ya len yc (by omega)
            obtain ⟨a9, c9, w9, hrun9, y9, f9, hc9, hr9, hk9, -⟩ := gw
            have k2 := hcb.cell2
            have glt := hcb.lt
            have t0 := px.cell0
            have t1 := px.cell1
            have xlt := px.lt
            have hI : DnI w5 (w9.setCell ⟨g, 2, none⟩ (.slice a9 (f + 1) c9)) g id fl ks r reply (t + 1) true := by
              have hkp9 : Kp (fun k => k = g) w5 (w9.setCell ⟨g, 2, none⟩ (.slice a9 (f + 1) c9)) := hkp.next hk9 (fun k hk e => by
                rcases e with e | e
                · exact e
                · have := (World.ownsRow.lt hrow k e).1; omega)
              refine ⟨_, Q ++ [(⟨num, ya, yc, body⟩ : KV)], ?_, ?_, ?_, ?_, hc9, ?_, hkp9, hkp9.size, ?_⟩
              · rw [← hpl.out, pg_step htk, hy.out]
                simp [s1.out, KV.flat]
              · intro k hk
                rw [List.take_succ_eq_append_getElem htk] at hk
                rcases List.mem_append.1 hk with hk | hk
                · exact hne.out k hk
                · rw [List.mem_singleton.1 hk, hy.out]; exact s2.out
              · simp [hf.out]; omega
              · intro hb; cases hb
              · have h1 := hf.out
                have h2 := hFc.out
                have h3 := hlen.out
                subst h1 h2 h3
                simpa [KV.cells] using hr9
              · have ho9 := dn_own hQo hk9 hgs hrow
                intro q hq
                rcases List.mem_append.1 hq with hq | hq
                · exact ho9 q hq
                · rw [List.mem_singleton.1 hq]; exact .inl (hy.out ▸ List.getElem_mem htk)
            replace hI := hid hI
            replace hcb := hid hcb
            replace hrow := hid hrow
            replace px := hid px
            replace hc9 := hid hc9
            replace hr9 := hid hr9
            replace hrun9 := hid hrun9
            replace hQo := hid hQo
            go_wp2_with (at_builtin; refine Hid.out ?_)
            refine hid ?_
            rw [show (wr.alloc (.cells #[.int .i64 num, .slice ya len yc] 36)).heap.size = wr.heap.size + 1 by simp] at hrun9
            refine wpList_ap rfl (.tmp 85) (.tmp 87) 32 rfl rfl kv (.slice (some ⟨wr.heap.size + 1, 0, none⟩) 1 1) _ rfl rfl hrun9.out ?_
            go_wp2_with fail
            go_roundw
            case rel => exact ⟨t + 1, _, by omega, rfl, by go_num, hI.out⟩
            case measure => simp [intOf]; omega
        · have g1 : decide (r < num) = false := decide_eq_false s1
          replace s1 := hid s1
          cases bb with
          | false =>
            have hft : f ≤ t := hfb.out rfl
            have hcb := hcbx
            have hrow := hrowx
            have hkp := hkpx
            have hsz := hszx
            have hQo := hQox
            clear hcbx hrowx hkpx hszx hQox
            have gw := grow36 hcb hrow hgs hsz num ya len yc (by omega)
            obtain ⟨a9, c9, w9, hrun9, y9, f9, hc9, hr9, hk9, -⟩ := gw
            have k2 := hcb.cell2
            have glt := hcb.lt
            have t0 := px.cell0
            have t1 := px.cell1
            have xlt := px.lt
            have hI : DnI w5 (w9.setCell ⟨g, 2, none⟩ (.slice a9 (f + 1) c9)) g id fl ks r reply (t + 1) false := by
              have hkp9 : Kp (fun k => k = g) w5 (w9.setCell ⟨g, 2, none⟩ (.slice a9 (f + 1) c9)) := hkp.next hk9 (fun k hk e => by
                rcases e with e | e
                · exact e
                · have := (World.ownsRow.lt hrow k e).1; omega)
              refine ⟨_, Q ++ [(⟨num, ya, yc, body⟩ : KV)], ?_, ?_, ?_, ?_, hc9, ?_, hkp9, hkp9.size, ?_⟩
              · rw [← hpl.out, pg_step htk, hy.out]
                simp [s1.out, KV.flat]
              · intro k hk
                rw [List.take_succ_eq_append_getElem htk] at hk
                rcases List.mem_append.1 hk with hk | hk
                · exact hne.out k hk
                · rw [List.mem_singleton.1 hk, hy.out]; exact s2.out
              · simp [hf.out]; omega
              · intro _; simp [hf.out]; omega
              · have h1 := hf.out
                have h2 := hFc.out
                have h3 := hlen.out
                subst h1 h2 h3
                simpa [KV.cells] using hr9
              · have ho9 := dn_own hQo hk9 hgs hrow
                intro q hq
                rcases List.mem_append.1 hq with hq | hq
                · exact ho9 q hq
                · rw [List.mem_singleton.1 hq]; exact .inl (hy.out ▸ List.getElem_mem htk)
            replace hI := hid hI
            replace hcb := hid hcb
            replace hrow := hid hrow
            replace px := hid px
            replace hc9 := hid hc9
            replace hr9 := hid hr9
            replace hrun9 := hid hrun9
            replace hQo := hid hQo
            go_wp2_with (at_builtin; refine Hid.out ?_)
            refine hid ?_
            rw [show (wr.alloc (.cells #[.int .i64 num, .slice ya len yc] 36)).heap.size = wr.heap.size + 1 by simp] at hrun9
            refine wpList_ap rfl (.tmp 85) (.tmp 87) 32 rfl rfl kv (.slice (some ⟨wr.heap.size + 1, 0, none⟩) 1 1) _ rfl rfl hrun9.out ?_
            go_wp2_with fail
            go_roundw
            case rel => exact ⟨t + 1, _, by omega, rfl, by go_num, hI.out⟩
            case measure => simp [intOf]; omega
          | true =>
            have hcb := hcbx
            have hrow := hrowx
            have hkp := hkpx
            have hsz := hszx
            have hQo := hQox
            clear hcbx hrowx hkpx hszx hQox
            have gw := grow36 hcb hrow hgs hsz num ya len yc (by omega)
            obtain ⟨a9, c9, w9, hrun9, y9, f9, hc9, hr9, hk9, -⟩ := gw
            have k2 := hcb.cell2
            have glt := hcb.lt
            have t0 := px.cell0
            have t1 := px.cell1
            have xlt := px.lt
            have hI : DnI w5 (w9.setCell ⟨g, 2, none⟩ (.slice a9 (f + 1) c9)) g id fl ks r reply (t + 1) true := by
              have hkp9 : Kp (fun k => k = g) w5 (w9.setCell ⟨g, 2, none⟩ (.slice a9 (f + 1) c9)) := hkp.next hk9 (fun k hk e => by
                rcases e with e | e
                · exact e
                · have := (World.ownsRow.lt hrow k e).1; omega)
              refine ⟨_, Q ++ [(⟨num, ya, yc, body⟩ : KV)], ?_, ?_, ?_, ?_, hc9, ?_, hkp9, hkp9.size, ?_⟩
              · rw [← hpl.out, pg_step htk, hy.out]
                simp [s1.out, KV.flat]
              · intro k hk
                rw [List.take_succ_eq_append_getElem htk] at hk
                rcases List.mem_append.1 hk with hk | hk
                · exact hne.out k hk
                · rw [List.mem_singleton.1 hk, hy.out]; exact s2.out
              · simp [hf.out]; omega
              · intro hb; cases hb
              · have h1 := hf.out
                have h2 := hFc.out
                have h3 := hlen.out
                subst h1 h2 h3
                simpa [KV.cells] using hr9
              · have ho9 := dn_own hQo hk9 hgs hrow
                intro q hq
                rcases List.mem_append.1 hq with hq | hq
                · exact ho9 q hq
                · rw [List.mem_singleton.1 hq]; exact .inl (hy.out ▸ List.getElem_mem htk)
            replace hI := hid hI
            replace hcb := hid hcb
            replace hrow := hid hrow
            replace px := hid px
            replace hc9 := hid hc9
            replace hr9 := hid hr9
            replace hrun9 := hid hrun9
            replace hQo := hid hQo
            go_wp2_with (at_builtin; refine Hid.out ?_)
            refine hid ?_
            rw [show (wr.alloc (.cells #[.int .i64 num, .slice ya len yc] 36)).heap.size = wr.heap.size + 1 by simp] at hrun9
            refine wpList_ap rfl (.tmp 85) (.tmp 87) 32 rfl rfl kv (.slice (some ⟨wr.heap.size + 1, 0, none⟩) 1 1) _ rfl rfl hrun9.out ?_
            go_wp2_with fail
            go_roundw
            case rel => exact ⟨t + 1, _, by omega, rfl, by go_num, hI.out⟩
            case measure => simp [intOf]; omega
    · obtain rfl : t = m := by omega
      have hpl2 := hpl.out
      rw [List.drop_eq_nil_of_le (by rw [hm.out]; exact Nat.le_refl _)] at hpl2
      have hne2 : ∀ k ∈ ks, k.num ≠ r := fun k hk => hne.out k (by rw [← hm.out, List.take_length]; exact hk)
      have hnone : getG (ks.map KV.flat) r = none := by
        cases hg : getG (ks.map KV.flat) r with
        | none => rfl
        | some v =>
          obtain ⟨x, hx, he⟩ := List.mem_map.1 (get_mem hg)
          exact absurd (congrArg (fun p : PK => p.1) he) (hne2 x hx)
      have hput : pgo (r, reply) false (ks.map KV.flat) = putG (ks.map KV.flat) (r, reply) := pgo_put _ _ (fun y hy => by
        obtain ⟨x, hx, rfl⟩ := List.mem_map.1 hy
        exact hne2 x hx)
      rw [hput] at hpl2
      have hplen : (putG (ks.map KV.flat) (r, reply)).length = t + 1 := by
        rw [len_put _ _ (hR.out.kup (id, fl, ks.map KV.flat) hmemF.out), hnone]
        simp [hm.out]
      have hRR3 : R = if 65536 < rl then ([], 3) else if t = 8 then ([], 5) else (putG (L.map CV.flat) (id, fl, putG (ks.map KV.flat) (r, reply)), 0) := by
        rw [hRR2.out, if_neg (show ¬ (getG (fl, ks.map KV.flat).2 r).isSome = true by show ¬ (getG (ks.map KV.flat) r).isSome = true; rw [hnone]; simp), show (fl, ks.map KV.flat).2.length = t by simp [hm.out]]
      replace hRR3 := hid hRR3
      replace hpl2 := hid hpl2
      replace hne2 := hid hne2
      replace hnone := hid hnone
      replace hput := hid hput
      replace hplen := hid hplen
      cases bb with
      | true =>
        have Bs := Br
        have hQf0 := hid (show Q.map KV.flat = putG (ks.map KV.flat) (r, reply) by have := hpl2.out; simpa [pgo] using this)
        have hcells := hFc
        have hQf : (Q).map KV.flat = putG (ks.map KV.flat) (r, reply) := hQf0.out
        have hlenQ : f = t + 1 := by have := congrArg List.length hQf; rw [hplen.out] at this; simpa [hf.out] using this
        obtain ⟨a6, c6, hkv, hc6⟩ := owns_form hrow
        have k0 := hcb.cell0
        have k1 := hcb.cell1
        have k2 := hcb.cell2
        by_cases e1 : 65536 < rl
        · have g1 : decide ((65536 : Int) < (rl : Int)) = true := decide_eq_true (by omega)
          have hRe := hRR3.out.trans (if_pos e1)
          subst hRe
          replace e1 := hid e1
          replace hcb := hid hcb
          replace hrow := hid hrow
          replace hQf := hid hQf
          replace hlenQ := hid hlenQ
          replace hkv := hid hkv
          go_wp2
          (try simp only [Exit.inBlock, Exit.then])
          refine bodyPost_ret (results_tmp2 rfl _ _ _) rfl ?_
          exact doner_none 3 w _ Bs
        · have g1 : decide ((65536 : Int) < (rl : Int)) = false := decide_eq_false (by omega)
          rw [hkv] at k2 hrow hcb
          by_cases e2 : t = 8
          · have g3 : decide ((8 : Int) < (((f : Nat)) : Int)) = true := decide_eq_true (by omega)
            have hRe := hRR3.out.trans ((if_neg e1).trans (if_pos e2))
            subst hRe
            replace e1 := hid e1
            replace e2 := hid e2
            replace hcb := hid hcb
            replace hrow := hid hrow
            replace hQf := hid hQf
            replace hkv := hid hkv
            replace hlenQ := hid hlenQ
            go_wp2
            (try simp only [Exit.inBlock, Exit.then])
            refine bodyPost_ret (results_tmp2 rfl _ _ _) rfl ?_
            exact doner_none 5 w _ Bs
          · have g3 : decide ((8 : Int) < (((f : Nat)) : Int)) = false := decide_eq_false (by omega)
            have hRe := hRR3.out.trans ((if_neg e1).trans (if_neg e2))
            subst hRe
            have hKF := hid (show KAt wr 0 a6 (Q) from ⟨by have := owns_cat hrow; rw [← hcells.out] at this; exact this, fun _ _ => Nat.zero_le _, fun k hk => by
                rcases hQo k hk with h1 | h1
                · exact (hka.out.body k h1).below Bs
                · exact h1.1.at_, fun _ _ _ _ => Nat.zero_le _, fun k hk => by
                rcases hQo k hk with h1 | h1
                · exact hka.out.short k h1
                · exact h1.2⟩)
            have hLs := hid (h.below Bs)
            have hQn : Hid ((Q).length = f) := hid (by simp [hf.out])
            replace e1 := hid e1
            replace e2 := hid e2
            replace hcb := hid hcb
            replace hrow := hid hrow
            replace hQf := hid hQf
            replace hkv := hid hkv
            replace hlenQ := hid hlenQ
            replace hQo := hid hQo
            go_wp2_with fail
            refine (with_any (some ⟨b, o, none⟩) n c L id fl a6 (f) c6 (Q) wr hL.out hLs.out hQn.out hKF.out (by omega)).mono ?_
            rintro e w6 ⟨a8, c8, n8, L8, rfl, l8, f8, h8, b8⟩
            have hfl8 : L8.map CV.flat = putG (L.map CV.flat) (id, fl, putG (ks.map KV.flat) (r, reply)) := by rw [f8, hQf.out]; exact wgo_put _ 0 _ hR.out.up
            have hn8 : n8 = (putG (L.map CV.flat) (id, fl, putG (ks.map KV.flat) (r, reply))).length := by rw [← hfl8, List.length_map, l8]
            have B8 := bnext Bs b8
            replace f8 := hid f8
            replace hfl8 := hid hfl8
            replace hn8 := hid hn8
            replace l8 := hid l8
            replace h8 := hid h8
            go_wp2
            (try simp only [Exit.inBlock, Exit.then])
            refine bodyPost_ret (results_tmp2 rfl _ _ _) rfl ?_
            refine ⟨a8, c8, L8, ?_, hfl8.out, h8.out, B8⟩
            rw [hn8.out]
            rfl
      | false =>
        have hft : f ≤ t := hfb.out rfl
        have Bs := Br
        have k2x := hcb.cell2
        go_wp2_with fail
        clear k2x
        have bd := drew_below wr
        have k2 := hcb.cell2
        have k2d : wr.drew.cell? ⟨g, 2, none⟩ = some kv := k2
        have hbg := World.block_lt_of_cell? _ _ k2d
        have hcp2 : Calls Try.prog 55 #[.slice ra rl rc] wr.drew fun e wc => ∃ a5 c5 a7 c7 w7, e = .returned (.slice a5 rl c5) ∧ wc.cell? ⟨g, 2, none⟩ = some kv ∧ g < wc.heap.size ∧ Hid ((Builtin.append_ #[32, 32] 32 #[kv, .slice (some ⟨wc.heap.size, 0, none⟩) 1 1]).run Try.prog (wc.alloc (.cells #[.int .i64 r, .slice a5 rl c5] 36)) = .ok (.slice a7 (f + 1) c7) w7) ∧ w7.cell? ⟨g, 2, none⟩ = some kv ∧ w7.frozen? ⟨g, 2, none⟩ = false ∧
            Hid (CBlk (w7.setCell ⟨g, 2, none⟩ (.slice a7 (f + 1) c7)) g (.int .i64 id) (.int .i64 fl) (.slice a7 (f + 1) c7)) ∧ Hid ((w7.setCell ⟨g, 2, none⟩ (.slice a7 (f + 1) c7)).ownsRow w5.heap.size 36 2 (.slice a7 (f + 1) c7) (f + 1) (Fc ++ [.int .i64 r, .slice a5 rl c5])) ∧
            Hid (Kp (fun k => k = g) w5 (w7.setCell ⟨g, 2, none⟩ (.slice a7 (f + 1) c7))) ∧ Hid (∀ q ∈ Q ++ [(⟨r, a5, c5, reply⟩ : KV)], q ∈ ks ∨ (Own (w7.setCell ⟨g, 2, none⟩ (.slice a7 (f + 1) c7)) w5.heap.size (.slice q.a q.body.length q.c) q.body ∧ q.body.length ≤ SMALL)) ∧ Hid (Kp (fun k => k = g ∨ kv.ownBlock = some k) wr (w7.setCell ⟨g, 2, none⟩ (.slice a7 (f + 1) c7))) := by
          refine (copyb_any ra rc rl reply wr.drew hrl.out hrs ((hat.out.below Bs).below bd)).mono ?_
          rintro e wc ⟨a5, c5, rfl, ho5, hb5⟩
          have y3 : wc.cell? ⟨g, 2, none⟩ = some kv := (hb5.cell (p := ⟨g, 2, none⟩) hbg).trans k2d
          have B5 := bnext bd hb5
          have hcc := hcb.below B5
          have hrc := owns_below hrow B5
          obtain ⟨a7, c7, w7, hrun, y7, f7, hc7, hr7, hk7, -⟩ := grow36 hcc hrc hgs (Nat.le_trans hsz B5.size) r a5 rl c5 (by omega)
          have hkw : Kp (fun k => k = g ∨ kv.ownBlock = some k) wr (w7.setCell ⟨g, 2, none⟩ (.slice a7 (f + 1) c7)) := (Kp.of_below B5).trans (hk7.mono (fun k _ h => h)) |>.mono (fun k _ h => h)
          refine ⟨a5, c5, a7, c7, w7, rfl, y3, World.block_lt_of_cell? _ _ y3, hid hrun, y7, f7, hid hc7, hid hr7, hid ?_, hid ?_, hid hkw⟩
          · exact hkp.next hkw (fun k hk e => by
              rcases e with e | e
              · exact e
              · have := (World.ownsRow.lt hrow k e).1; omega)
          · intro q hq
            rcases List.mem_append.1 hq with hq | hq
            · exact dn_own hQo hkw hgs hrow q hq
            · rw [List.mem_singleton.1 hq]
              refine .inr ⟨?_, by show reply.length ≤ SMALL; unfold SMALL; have := hrl.out; omega⟩
              have ho6 : Own wc w5.heap.size (.slice a5 reply.length c5) reply := by rw [hrl.out]; exact ho5.le (Nat.le_trans hsz bd.size)
              refine ho6.kp hk7 (fun k hk' e => ?_)
              rcases e with e | e
              · have := (ho6.lt k hk').1; omega
              · exact own_off ho6 hrc (by decide) k hk' e
        replace hcb := hid hcb
        replace hrow := hid hrow
        replace hkp := hid hkp
        replace hQo := hid hQo
        go_region_law (first
          | (refine step_call rfl 55 _ _ rfl Try.f55 Try.func55 (by kernel_rfl) (by kernel_rfl) #[.slice ra rl rc] (by simp [Act.eval, Act.put]) hcp2 ?_; rintro e wc ⟨a5, c5, a7, c7, w7, rfl, y3, l5, hrun, y7, f7, hc8, hr8, hkp8, hQ8, hkw8⟩; refine ⟨_, rfl, ?_⟩)
          | (refine step_ap2 rfl (.tmp 93) (.tmp 98) 32 rfl rfl kv (.slice (some ⟨wc.heap.size, 0, none⟩) 1 1) _ rfl rfl hrun.out ?_))
        all_goals
          obtain ⟨wy, hwy⟩ : ∃ W, W = w7.setCell ⟨g, 2, none⟩ (.slice a7 (f + 1) c7) := ⟨_, rfl⟩
          rw [← hwy] at hc8 hr8 hkp8 hQ8 hkw8 ⊢
          clear hwy k2 k2d y3 l5 y7 f7 hrun Bs
          have hcb2 := hc8.out
          have hrow2 := hr8.out
          have hkp2 := hkp8.out
          have hQo2 := hQ8.out
          clear hcb hrow hkp hQo hc8 hr8 hkp8 hQ8
          have hcb := hcb2
          have hrow := hrow2
          have hQo := hQo2
          clear hcb2 hrow2 hQo2
          have Bs : Below w.heap.size w wy := B5.trans (hkp2.below (fun k e => by omega) B5.size)
          have hQf0 := hid (show (Q ++ [(⟨r, a5, c5, reply⟩ : KV)]).map KV.flat = putG (ks.map KV.flat) (r, reply) by have := hpl2.out; simpa [pgo, KV.flat] using this)
          have hcells := hid (show (Q ++ [(⟨r, a5, c5, reply⟩ : KV)]).flatMap KV.cells = Fc ++ [.int .i64 r, .slice a5 rl c5] by have h1 := hFc.out; have h2 := hrl.out; subst h1 h2; simp [KV.cells])
          obtain ⟨f1, hf1⟩ : ∃ x, f + 1 = x := ⟨_, rfl⟩
          rw [hf1] at hcb hrow
          replace hf1 := hid hf1
          have hQf : (Q ++ [(⟨r, a5, c5, reply⟩ : KV)]).map KV.flat = putG (ks.map KV.flat) (r, reply) := hQf0.out
          have hlenQ : f1 = t + 1 := by have := congrArg List.length hQf; rw [hplen.out] at this; rw [← hf1.out]; simpa [hf.out] using this
          obtain ⟨a6, c6, hkv, hc6⟩ := owns_form hrow
          have k0 := hcb.cell0
          have k1 := hcb.cell1
          have k2 := hcb.cell2
          by_cases e1 : 65536 < rl
          · have g1 : decide ((65536 : Int) < (rl : Int)) = true := decide_eq_true (by omega)
            have hRe := hRR3.out.trans (if_pos e1)
            subst hRe
            replace e1 := hid e1
            replace hcb := hid hcb
            replace hrow := hid hrow
            replace hQf := hid hQf
            replace hlenQ := hid hlenQ
            replace hkv := hid hkv
            go_wp2
            (try simp only [Exit.inBlock, Exit.then])
            refine bodyPost_ret (results_tmp2 rfl _ _ _) rfl ?_
            exact doner_none 3 w _ Bs
          · have g1 : decide ((65536 : Int) < (rl : Int)) = false := decide_eq_false (by omega)
            rw [hkv] at k2 hrow hcb
            by_cases e2 : t = 8
            · have g3 : decide ((8 : Int) < (((f1 : Nat)) : Int)) = true := decide_eq_true (by omega)
              have hRe := hRR3.out.trans ((if_neg e1).trans (if_pos e2))
              subst hRe
              replace e1 := hid e1
              replace e2 := hid e2
              replace hcb := hid hcb
              replace hrow := hid hrow
              replace hQf := hid hQf
              replace hkv := hid hkv
              replace hlenQ := hid hlenQ
              go_wp2
              (try simp only [Exit.inBlock, Exit.then])
              refine bodyPost_ret (results_tmp2 rfl _ _ _) rfl ?_
              exact doner_none 5 w _ Bs
            · have g3 : decide ((8 : Int) < (((f1 : Nat)) : Int)) = false := decide_eq_false (by omega)
              have hRe := hRR3.out.trans ((if_neg e1).trans (if_neg e2))
              subst hRe
              have hKF := hid (show KAt wy 0 a6 (Q ++ [(⟨r, a5, c5, reply⟩ : KV)]) from ⟨by have := owns_cat hrow; rw [← hcells.out] at this; exact this, fun _ _ => Nat.zero_le _, fun k hk => by
                  rcases hQo k hk with h1 | h1
                  · exact (hka.out.body k h1).below Bs
                  · exact h1.1.at_, fun _ _ _ _ => Nat.zero_le _, fun k hk => by
                  rcases hQo k hk with h1 | h1
                  · exact hka.out.short k h1
                  · exact h1.2⟩)
              have hLs := hid (h.below Bs)
              have hQn : Hid ((Q ++ [(⟨r, a5, c5, reply⟩ : KV)]).length = f1) := hid (by simp [hf.out, hf1.out])
              replace e1 := hid e1
              replace e2 := hid e2
              replace hcb := hid hcb
              replace hrow := hid hrow
              replace hQf := hid hQf
              replace hkv := hid hkv
              replace hlenQ := hid hlenQ
              replace hQo := hid hQo
              go_wp2_with fail
              refine (with_any (some ⟨b, o, none⟩) n c L id fl a6 (f1) c6 (Q ++ [(⟨r, a5, c5, reply⟩ : KV)]) wy hL.out hLs.out hQn.out hKF.out (by omega)).mono ?_
              rintro e w6 ⟨a8, c8, n8, L8, rfl, l8, f8, h8, b8⟩
              have hfl8 : L8.map CV.flat = putG (L.map CV.flat) (id, fl, putG (ks.map KV.flat) (r, reply)) := by rw [f8, hQf.out]; exact wgo_put _ 0 _ hR.out.up
              have hn8 : n8 = (putG (L.map CV.flat) (id, fl, putG (ks.map KV.flat) (r, reply))).length := by rw [← hfl8, List.length_map, l8]
              have B8 := bnext Bs b8
              replace f8 := hid f8
              replace hfl8 := hid hfl8
              replace hn8 := hid hn8
              replace l8 := hid l8
              replace h8 := hid h8
              go_wp2
              (try simp only [Exit.inBlock, Exit.then])
              refine bodyPost_ret (results_tmp2 rfl _ _ _) rfl ?_
              refine ⟨a8, c8, L8, ?_, hfl8.out, h8.out, B8⟩
              rw [hn8.out]
              rfl

end Go.Proofs.Ythjggjjocfbjcaa
