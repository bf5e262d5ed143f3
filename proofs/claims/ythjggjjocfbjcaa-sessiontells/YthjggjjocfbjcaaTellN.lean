/- The document's Look of a client that is known. -/
import Derived.Test.YthjggjjocfbjcaaTellK
namespace Go.Proofs.Ythjggjjocfbjcaa
open Go.RowKit

set_option linter.unusedVariables false in
set_option linter.unusedSimpArgs false in
set_option maxRecDepth 100000 in
set_option maxHeartbeats 8000000 in
theorem lookr_old_fl (a : Option Addr) (n c : Nat) (L : List CV) (cl r ak : Int) (w : World) (hL : L.length = n) (h : LAt w 0 a L) (hR : RightC (L.map CV.flat)) (hc : 1 ≤ cl ∧ cl ≤ 4611686018427387904) (hrr : 1 ≤ r ∧ r ≤ 4611686018427387904) (ha : 0 ≤ ak ∧ ak < r) (hyes : ∃ x ∈ L, x.id = cl) (hmx : ak ≤ (curC (L.map CV.flat) cl).1) :
    Calls Try.prog 18 #[.slice a n c, .int .i64 cl, .int .i64 r, .int .i64 ak] w (RLookPost (putG (L.map CV.flat) (cl, setC (curC (L.map CV.flat) cl) ak), (judC (setC (curC (L.map CV.flat) cl) ak) r).1, (judC (setC (curC (L.map CV.flat) cl) ak) r).2, 0) w) := by
  have hn16 : n ≤ 16 := by have := hR.len; rw [List.length_map] at this; omega
  have hr := hid ((right_iff _).2 hR)
  have d0 : decide (cl < 1) = false := decide_eq_false (by omega)
  have d1 : decide (4611686018427387904 < cl) = false := decide_eq_false (by omega)
  have d2 : decide (r < 1) = false := decide_eq_false (by omega)
  have d3 : decide (4611686018427387904 < r) = false := decide_eq_false (by omega)
  have d4 : decide (ak < 0) = false := decide_eq_false (by omega)
  have d5 : decide (r ≤ ak) = false := decide_eq_false (by omega)
  replace hR := hid hR
  replace hc := hid hc
  replace hrr := hid hrr
  replace ha := hid ha
  replace hyes := hid hyes
  replace hL := hid hL
  have hn : n ≤ 9000000000000000000 := by omega
  go_enter Try.func18, Try.ntmps18
  go_wp2_with fail
  refine (rightr_any a n c 0 L _ hL.out h hn).mono ?_
  rintro e w2 ⟨rfl, hb2⟩
  rw [hr.out]
  have b3 := below_lit w2 (.cells #[.int .i64 cl, .int .i64 0, .slice none 0 0] 34)
  have p3 := CBlk.new w2 (.int .i64 cl) (.int .i64 0) (.slice none 0 0)
  have h3 := (h.below hb2).below b3
  have B3 := bnext hb2 b3
  go_wp2_with fail
  obtain ⟨w3, hw3⟩ : ∃ W, W = w2.alloc (.cells #[.int .i64 cl, .int .i64 0, .slice none 0 0] 34) := ⟨_, rfl⟩
  have hs3 : w3.heap.size = w2.heap.size + 1 := by rw [hw3]; simp
  rw [← hw3] at b3 p3 h3 B3 ⊢
  clear hw3
  have hgl : w.heap.size ≤ w2.heap.size := hb2.size
  refine (find_any a n c 0 L cl _ hL.out h3 hn).mono ?_
  rintro e w4 ⟨⟨fr, rfl, hfr⟩, b4⟩
  obtain ⟨i, hi, rfl, hic⟩ : ∃ i : Nat, ∃ hi : i < L.length, fr = (i : Int) ∧ L[i].id = cl := by
    rcases hfr with ⟨i, hi, e1, he⟩ | ⟨_, hno⟩
    · exact ⟨i, hi, e1, he⟩
    · obtain ⟨x, hx, he⟩ := hyes.out
      exact absurd he (hno x hx)
  have hin : i < n := by rw [← hL.out]; exact hi
  obtain ⟨b, o, e⟩ := h.place (by intro e; rw [e] at hi; simp at hi)
  subst e
  obtain ⟨q, hq⟩ : ∃ q, L[i] = q := ⟨_, rfl⟩
  obtain ⟨id, fl, ka, kc, ks⟩ := q
  have hcid : id = cl := by rw [hq] at hic; exact hic
  subst hcid
  obtain ⟨m, hm⟩ : ∃ m, ks.length = m := ⟨_, rfl⟩
  have p4 := p3.below b4
  have h4 := h3.below b4
  obtain ⟨x0, x1, x2⟩ := h4.one i hi
  rw [hq] at x0 x1 x2
  simp only at x0 x1 x2
  rw [hm] at x2
  have c0 := p4.cell0
  have c1 := p4.cell1
  have c2 := p4.cell2
  have f1 := p4.free 1
  have B4 := bnext B3 b4
  have hob : b ≠ w2.heap.size := by
    have : b < w.heap.size := World.block_lt_of_cell? _ _ ((h.one i hi).1)
    omega
  obtain ⟨i1, hi1, hy0, hy1, hy2⟩ := info_parts info36z
  have hka := hid (show KAt w 0 ka ks by have := h.kept _ (List.getElem_mem hi); rw [hq] at this; exact this)
  have hkup := hid (show Up fl (ks.map KV.flat) from hR.out.kup (id, fl, ks.map KV.flat) (List.mem_map.2 ⟨L[i], List.getElem_mem hi, by rw [hq]; rfl⟩))
  have hk8 := hid (show ks.length ≤ 8 by have := hR.out.kept (id, fl, ks.map KV.flat) (List.mem_map.2 ⟨L[i], List.getElem_mem hi, by rw [hq]; rfl⟩); simpa using this)
  have hm8 : m ≤ 8 := by have := hk8.out; omega
  have hcur : Hid (curC (L.map CV.flat) id = (fl, ks.map KV.flat)) := hid (by
    have hmem : (id, fl, ks.map KV.flat) ∈ L.map CV.flat := List.mem_map.2 ⟨L[i], List.getElem_mem hi, by rw [hq]; rfl⟩
    have := up_get hR.out.up hmem
    unfold curC
    rw [this]
    rfl)
  rw [hcur.out] at hmx
  replace hmx : ak ≤ fl := hmx
  replace hfr := hid hfr
  replace hq := hid hq
  replace hm := hid hm
  replace h3 := hid h3
  replace h4 := hid h4
  replace p3 := hid p3
  replace p4 := hid p4
  replace hic := hid hic
  go_wp2_with fail
  have P5 := (p4.out.set1 (.int .i64 fl)).set1 (.int .i64 fl)
  have B5 : Below w.heap.size w ((w4.setCell ⟨w2.heap.size, 1, none⟩ (.int .i64 fl)).setCell ⟨w2.heap.size, 1, none⟩ (.int .i64 fl)) := (B4.setCell (p := ⟨w2.heap.size, 1, none⟩) hgl _).setCell (p := ⟨w2.heap.size, 1, none⟩) hgl _
  have hgs : w2.heap.size < ((w4.setCell ⟨w2.heap.size, 1, none⟩ (.int .i64 fl)).setCell ⟨w2.heap.size, 1, none⟩ (.int .i64 fl)).heap.size := P5.lt
  obtain ⟨w5, hw5⟩ : ∃ W, W = (w4.setCell ⟨w2.heap.size, 1, none⟩ (.int .i64 fl)).setCell ⟨w2.heap.size, 1, none⟩ (.int .i64 fl) := ⟨_, rfl⟩
  rw [← hw5] at P5 B5 hgs ⊢
  clear hw5 x0 x1 x2 c0 c1 c2 f1 hob
  generalize w2.heap.size = g at P5 hgl hgs ⊢
  replace P5 := hid P5
  have hset : Hid (setC (curC (L.map CV.flat) id) ak = (fl, (ks.filter (fun k => !decide (k.num ≤ fl))).map KV.flat)) := hid (by
    rw [hcur.out]
    unfold setC
    show (max fl ak, (ks.map KV.flat).filter (fun k => !decide (k.1 ≤ max fl ak))) = _
    rw [show max fl ak = fl by omega, List.filter_map]
    rfl)
  go_loopw [14, 15, 16] (fun v x i wr => ∃ t : Nat, t ≤ m ∧ i = .int .i64 (t : Int) ∧ LkI w w5 wr g id fl ks r t v x) (fun _ _ i _ => m - (intOf i).toNat)
  case atStart => exact ⟨0, Nat.zero_le _, rfl, _, [], rfl, P5.out, World.ownsRow_nil _ _ _ _, Kp.refl _ _, 1, none, 0, 0, [], rfl, rfl, rfl, at_nil _ _, rfl⟩
  case round =>
    obtain ⟨t, ht, rfl, kv, F, hF, hcb, hrow, hkp, tv, ra, rc, rn, rb, rfl, rfl, hrn, hrat, htold⟩ := hrel
    have Br : Below w.heap.size w wr := B5.trans (hkp.below (fun k e => by omega) B5.size)
    obtain ⟨x0, x1, x2⟩ := (h.below Br).one i hi
    rw [hq.out] at x0 x1 x2
    simp only at x0 x1 x2
    rw [hm.out] at x2
    have hfm : F.length ≤ t := by rw [← hF]; refine Nat.le_trans (List.length_filter_le _ _) ?_; simp; omega
    obtain ⟨f, hf⟩ : ∃ f, F.length = f := ⟨_, rfl⟩
    obtain ⟨Fc, hFc⟩ : ∃ Fc, F.flatMap KV.cells = Fc := ⟨_, rfl⟩
    rw [hf, hFc] at hrow
    rw [hf] at hfm
    replace hF := hid hF
    replace hf := hid hf
    replace hFc := hid hFc
    replace hrn := hid hrn
    replace hrat := hid hrat
    replace htold := hid htold
    by_cases htm : t < m
    · have htk : t < ks.length := by rw [hm.out]; exact htm
      have hat := hid (hka.out.body _ (List.getElem_mem htk))
      obtain ⟨kb, ko, e⟩ := hka.out.place (by intro e; rw [e] at htk; simp at htk)
      subst e
      obtain ⟨y, hy⟩ : ∃ y, ks[t] = y := ⟨_, rfl⟩
      obtain ⟨num, ya, yc, body⟩ := y
      obtain ⟨len, hlen⟩ : ∃ l, body.length = l := ⟨_, rfl⟩
      replace hlen := hid hlen
      replace hy := hid hy
      by_cases s1 : fl < num
      · have g1 : decide (fl < num) = true := decide_eq_true s1
        replace s1 := hid s1
        by_cases s2 : num = r
        · have g2 : (num == r) = true := by simpa using s2
          replace s2 := hid s2
          have z := (hka.out.below Br).one t htk
          rw [hy.out] at z
          simp only at z
          rw [hlen.out] at z
          obtain ⟨z0, z1⟩ := z
          have c1 := hcb.cell1
          have c2 := hcb.cell2
          have bx := below_lit wr (.cells #[.int .i64 num, .slice ya len yc] 36)
          have px := TBlk.new 36 wr (.int .i64 num) (.slice ya len yc)
          have cx := hcb.below bx
          have glt := hcb.lt
          have hgne : ¬ (g = wr.heap.size) := by omega
          have hgne2 : ¬ (wr.heap.size = g) := by omega
          have bl := below_lit (wr.alloc (.cells #[.int .i64 num, .slice ya len yc] 36)) (.cells #[.int .i64 num, .slice ya len yc] 36)
          have hr6 := hid (owns_below (owns_below hrow bx) bl)
          have hcl0 := cat_lit (wr.alloc (.cells #[.int .i64 num, .slice ya len yc] 36)) 36 [.int .i64 num, .slice ya len yc] _ rfl
          rw [show (wr.alloc (.cells #[.int .i64 num, .slice ya len yc] 36)).heap.size = wr.heap.size + 1 by simp] at hcl0
          have hcl := hid hcl0
          clear hcl0
          have hbase := hid (show w5.heap.size ≤ ((wr.alloc (.cells #[.int .i64 num, .slice ya len yc] 36)).alloc (.cells #[.int .i64 num, .slice ya len yc] 36)).heap.size from Nat.le_trans hkp.size (bnext bx bl).size)
          have hsx : (wr.alloc (.cells #[.int .i64 num, .slice ya len yc] 36)).heap.size = wr.heap.size + 1 := by simp
          replace hcb := hid hcb
          go_wp2_with (at_builtin; refine Hid.out ?_)
          refine hid ?_
          refine wpList_cat _ rfl (.tmp 95) (.tmp 97) 32 rfl w5.heap.size 36 i1 _ 2 32 Try.underlying32 hi1 hy0 hy1 hy2 rfl (by omega) kv f Fc rfl hr6.out (some ⟨wr.heap.size + 1, 0, none⟩) 1 1 [.int .i64 num, .slice ya len yc] rfl rfl hcl.out (by simp [Value.oneCell']) (by unfold maxLen; omega) (by omega) hbase.out ?_
          intro v7 w7 hr7 hg7 hv7
          obtain ⟨a7, c7, rfl, hcc7⟩ := owns_form hr7
          have hko : ∀ k, kv.ownBlock = some k → w5.heap.size ≤ k := (fun k hk => (World.ownsRow.lt hrow k hk).1)
          have p7 := ((hcb.out.below bx).below bl).kp (Kp.grown hg7) (fun e => by have := hko g e; omega)
          have px7 : TBlk 36 w7 wr.heap.size (.int .i64 num) (.slice ya len yc) := (by have hpb := px.below bl; unfold TBlk; rw [(Kp.grown hg7).block wr.heap.size hpb.lt (fun e => by have := (World.ownsRow.lt hrow _ e).2; omega)]; exact hpb)
          have e2 := p7.cell2
          have e1 := p7.cell1
          have f2 := p7.free 2
          have xx0 := px7.cell0
          have xx1 := px7.cell1
          have hk8 : Kp (fun k => k = g) w5 (w7.setCell ⟨g, 2, none⟩ (.slice a7 (f + 1) c7)) := (((hkp.then (bnext bx bl)).next (Kp.grown hg7) (fun k hk e => by have := hko k e; omega))).setCell (p := ⟨g, 2, none⟩) rfl _
          have hc8 := p7.set2 (.slice a7 (f + 1) c7)
          have hro8 : (w7.setCell ⟨g, 2, none⟩ (.slice a7 (f + 1) c7)).ownsRow w5.heap.size 36 2 (.slice a7 (f + 1) c7) (f + 1) (Fc ++ [.int .i64 num, .slice ya len yc]) := owns_kp hr7 ((Kp.refl (fun k => k = g) w7).setCell (p := ⟨g, 2, none⟩) rfl _) (fun k hk e => by have := (World.ownsRow.lt hr7 k hk).1; omega)
          replace hk8 := hid hk8
          replace hc8 := hid hc8
          replace hro8 := hid hro8
          replace p7 := hid p7
          replace px7 := hid px7
          replace px := hid px
          have hI : LkI w w5 (w7.setCell ⟨g, 2, none⟩ (.slice a7 (f + 1) c7)) g id fl ks r (t + 1) (.int .u8 2) (.slice ya len yc) := by
            have hF2 := hF.out
            have hfl : (ks.take (t + 1)).filter (fun k => !decide (k.num ≤ fl)) = F ++ [(⟨num, ya, yc, body⟩ : KV)] := by
              rw [filter_take_keep (L := ks) htk (fun x => decide (x ≤ fl)) (by rw [hy.out]; show decide (num ≤ fl) = false; exact decide_eq_false (by have := s1.out; omega)), hF2, hy.out]
            refine ⟨(.slice a7 (f + 1) c7), F ++ [(⟨num, ya, yc, body⟩ : KV)], hfl, hc8.out, ?_, hk8.out, ?_⟩
            · have h1 := hf.out
              have h2 := hFc.out
              have h3 := hlen.out
              subst h1 h2 h3
              have h5 := hro8.out
              simpa [KV.cells] using h5
            · have hb := hat.out
              rw [hy.out] at hb
              refine ⟨2, ya, yc, len, body, rfl, rfl, hlen.out, hb, ?_⟩
              rw [List.take_succ_eq_append_getElem htk, List.map_append, hy.out]
              have hnone : getG ((ks.take t).map KV.flat) r = none := told_none hkup.out htk (by rw [hy.out]; exact s2.out)
              unfold toldP
              rw [List.map_singleton, getG_snoc, hnone]
              simp [KV.flat, s2.out]
          replace hI := hid hI
          go_wp2_with fail
          go_roundw
          case rel => exact ⟨t + 1, by omega, by go_num, hI.out⟩
          case measure => simp [intOf]; omega
        · have g2 : (num == r) = false := by simpa using s2
          replace s2 := hid s2
          have z := (hka.out.below Br).one t htk
          rw [hy.out] at z
          simp only at z
          rw [hlen.out] at z
          obtain ⟨z0, z1⟩ := z
          have c1 := hcb.cell1
          have c2 := hcb.cell2
          have bx := below_lit wr (.cells #[.int .i64 num, .slice ya len yc] 36)
          have px := TBlk.new 36 wr (.int .i64 num) (.slice ya len yc)
          have cx := hcb.below bx
          have glt := hcb.lt
          have hgne : ¬ (g = wr.heap.size) := by omega
          have hgne2 : ¬ (wr.heap.size = g) := by omega
          have bl := below_lit (wr.alloc (.cells #[.int .i64 num, .slice ya len yc] 36)) (.cells #[.int .i64 num, .slice ya len yc] 36)
          have hr6 := hid (owns_below (owns_below hrow bx) bl)
          have hcl0 := cat_lit (wr.alloc (.cells #[.int .i64 num, .slice ya len yc] 36)) 36 [.int .i64 num, .slice ya len yc] _ rfl
          rw [show (wr.alloc (.cells #[.int .i64 num, .slice ya len yc] 36)).heap.size = wr.heap.size + 1 by simp] at hcl0
          have hcl := hid hcl0
          clear hcl0
          have hbase := hid (show w5.heap.size ≤ ((wr.alloc (.cells #[.int .i64 num, .slice ya len yc] 36)).alloc (.cells #[.int .i64 num, .slice ya len yc] 36)).heap.size from Nat.le_trans hkp.size (bnext bx bl).size)
          have hsx : (wr.alloc (.cells #[.int .i64 num, .slice ya len yc] 36)).heap.size = wr.heap.size + 1 := by simp
          replace hcb := hid hcb
          go_wp2_with (at_builtin; refine Hid.out ?_)
          refine hid ?_
          refine wpList_cat _ rfl (.tmp 95) (.tmp 97) 32 rfl w5.heap.size 36 i1 _ 2 32 Try.underlying32 hi1 hy0 hy1 hy2 rfl (by omega) kv f Fc rfl hr6.out (some ⟨wr.heap.size + 1, 0, none⟩) 1 1 [.int .i64 num, .slice ya len yc] rfl rfl hcl.out (by simp [Value.oneCell']) (by unfold maxLen; omega) (by omega) hbase.out ?_
          intro v7 w7 hr7 hg7 hv7
          obtain ⟨a7, c7, rfl, hcc7⟩ := owns_form hr7
          have hko : ∀ k, kv.ownBlock = some k → w5.heap.size ≤ k := (fun k hk => (World.ownsRow.lt hrow k hk).1)
          have p7 := ((hcb.out.below bx).below bl).kp (Kp.grown hg7) (fun e => by have := hko g e; omega)
          have px7 : TBlk 36 w7 wr.heap.size (.int .i64 num) (.slice ya len yc) := (by have hpb := px.below bl; unfold TBlk; rw [(Kp.grown hg7).block wr.heap.size hpb.lt (fun e => by have := (World.ownsRow.lt hrow _ e).2; omega)]; exact hpb)
          have e2 := p7.cell2
          have e1 := p7.cell1
          have f2 := p7.free 2
          have xx0 := px7.cell0
          have xx1 := px7.cell1
          have hk8 : Kp (fun k => k = g) w5 (w7.setCell ⟨g, 2, none⟩ (.slice a7 (f + 1) c7)) := (((hkp.then (bnext bx bl)).next (Kp.grown hg7) (fun k hk e => by have := hko k e; omega))).setCell (p := ⟨g, 2, none⟩) rfl _
          have hc8 := p7.set2 (.slice a7 (f + 1) c7)
          have hro8 : (w7.setCell ⟨g, 2, none⟩ (.slice a7 (f + 1) c7)).ownsRow w5.heap.size 36 2 (.slice a7 (f + 1) c7) (f + 1) (Fc ++ [.int .i64 num, .slice ya len yc]) := owns_kp hr7 ((Kp.refl (fun k => k = g) w7).setCell (p := ⟨g, 2, none⟩) rfl _) (fun k hk e => by have := (World.ownsRow.lt hr7 k hk).1; omega)
          replace hk8 := hid hk8
          replace hc8 := hid hc8
          replace hro8 := hid hro8
          replace p7 := hid p7
          replace px7 := hid px7
          replace px := hid px
          have hI : LkI w w5 (w7.setCell ⟨g, 2, none⟩ (.slice a7 (f + 1) c7)) g id fl ks r (t + 1) (.int .u8 tv) (.slice ra rn rc) := by
            have hF2 := hF.out
            have hfl : (ks.take (t + 1)).filter (fun k => !decide (k.num ≤ fl)) = F ++ [(⟨num, ya, yc, body⟩ : KV)] := by
              rw [filter_take_keep (L := ks) htk (fun x => decide (x ≤ fl)) (by rw [hy.out]; show decide (num ≤ fl) = false; exact decide_eq_false (by have := s1.out; omega)), hF2, hy.out]
            refine ⟨(.slice a7 (f + 1) c7), F ++ [(⟨num, ya, yc, body⟩ : KV)], hfl, hc8.out, ?_, hk8.out, ?_⟩
            · have h1 := hf.out
              have h2 := hFc.out
              have h3 := hlen.out
              subst h1 h2 h3
              have h5 := hro8.out
              simpa [KV.cells] using h5
            · refine ⟨tv, ra, rc, rn, rb, rfl, rfl, hrn.out, hrat.out, ?_⟩
              rw [List.take_succ_eq_append_getElem htk, List.map_append, hy.out, htold.out]
              unfold toldP
              rw [List.map_singleton, getG_snoc]
              cases getG ((ks.take t).map KV.flat) r with
              | some v => rfl
              | none =>
                simp [KV.flat, s2.out]
          replace hI := hid hI
          go_wp2_with fail
          go_roundw
          case rel => exact ⟨t + 1, by omega, by go_num, hI.out⟩
          case measure => simp [intOf]; omega
      · have g1 : decide (fl < num) = false := decide_eq_false s1
        replace s1 := hid s1
        by_cases s2 : num = r
        · have g2 : (num == r) = true := by simpa using s2
          replace s2 := hid s2
          have z := (hka.out.below Br).one t htk
          rw [hy.out] at z
          simp only at z
          rw [hlen.out] at z
          obtain ⟨z0, z1⟩ := z
          have c1 := hcb.cell1
          have c2 := hcb.cell2
          have bx := below_lit wr (.cells #[.int .i64 num, .slice ya len yc] 36)
          have px := TBlk.new 36 wr (.int .i64 num) (.slice ya len yc)
          have cx := hcb.below bx
          have glt := hcb.lt
          have hk8 := hid (hkp.then bx)
          have hc8 := hid cx
          have hro8 := hid (owns_below hrow bx)
          have hI : LkI w w5 (wr.alloc (.cells #[.int .i64 num, .slice ya len yc] 36)) g id fl ks r (t + 1) (.int .u8 2) (.slice ya len yc) := by
            have hF2 := hF.out
            have hfl : (ks.take (t + 1)).filter (fun k => !decide (k.num ≤ fl)) = F := by
              rw [filter_take_drop (L := ks) htk (fun x => decide (x ≤ fl)) (by rw [hy.out]; show decide (num ≤ fl) = true; exact decide_eq_true (by have := s1.out; omega)), hF2]
            refine ⟨kv, F, hfl, hc8.out, ?_, hk8.out, ?_⟩
            · have h1 := hf.out
              have h2 := hFc.out
              have h3 := hlen.out
              subst h1 h2 h3
              have h5 := hro8.out
              exact h5
            · have hb := hat.out
              rw [hy.out] at hb
              refine ⟨2, ya, yc, len, body, rfl, rfl, hlen.out, hb, ?_⟩
              rw [List.take_succ_eq_append_getElem htk, List.map_append, hy.out]
              have hnone : getG ((ks.take t).map KV.flat) r = none := told_none hkup.out htk (by rw [hy.out]; exact s2.out)
              unfold toldP
              rw [List.map_singleton, getG_snoc, hnone]
              simp [KV.flat, s2.out]
          replace hI := hid hI
          replace hcb := hid hcb
          go_wp2_with fail
          go_roundw
          case rel => exact ⟨t + 1, by omega, by go_num, hI.out⟩
          case measure => simp [intOf]; omega
        · have g2 : (num == r) = false := by simpa using s2
          replace s2 := hid s2
          have z := (hka.out.below Br).one t htk
          rw [hy.out] at z
          simp only at z
          rw [hlen.out] at z
          obtain ⟨z0, z1⟩ := z
          have c1 := hcb.cell1
          have c2 := hcb.cell2
          have bx := below_lit wr (.cells #[.int .i64 num, .slice ya len yc] 36)
          have px := TBlk.new 36 wr (.int .i64 num) (.slice ya len yc)
          have cx := hcb.below bx
          have glt := hcb.lt
          have hk8 := hid (hkp.then bx)
          have hc8 := hid cx
          have hro8 := hid (owns_below hrow bx)
          have hI : LkI w w5 (wr.alloc (.cells #[.int .i64 num, .slice ya len yc] 36)) g id fl ks r (t + 1) (.int .u8 tv) (.slice ra rn rc) := by
            have hF2 := hF.out
            have hfl : (ks.take (t + 1)).filter (fun k => !decide (k.num ≤ fl)) = F := by
              rw [filter_take_drop (L := ks) htk (fun x => decide (x ≤ fl)) (by rw [hy.out]; show decide (num ≤ fl) = true; exact decide_eq_true (by have := s1.out; omega)), hF2]
            refine ⟨kv, F, hfl, hc8.out, ?_, hk8.out, ?_⟩
            · have h1 := hf.out
              have h2 := hFc.out
              have h3 := hlen.out
              subst h1 h2 h3
              have h5 := hro8.out
              exact h5
            · refine ⟨tv, ra, rc, rn, rb, rfl, rfl, hrn.out, hrat.out, ?_⟩
              rw [List.take_succ_eq_append_getElem htk, List.map_append, hy.out, htold.out]
              unfold toldP
              rw [List.map_singleton, getG_snoc]
              cases getG ((ks.take t).map KV.flat) r with
              | some v => rfl
              | none =>
                simp [KV.flat, s2.out]
          replace hI := hid hI
          replace hcb := hid hcb
          go_wp2_with fail
          go_roundw
          case rel => exact ⟨t + 1, by omega, by go_num, hI.out⟩
          case measure => simp [intOf]; omega
    · obtain rfl : t = m := by omega
      obtain ⟨a5, c5, rfl, hc5⟩ := owns_form hrow
      have hF2 : ks.filter (fun k => !decide (k.num ≤ fl)) = F := by have := hF.out; rw [← hm.out, List.take_length] at this; exact this
      rw [hF2] at hset
      have htold2 : (tv, rb) = toldP r (ks.map KV.flat) := by have := htold.out; rw [← hm.out, List.take_length] at this; exact this
      have hLr := hid (h.below Br)
      have hKF := hid (show KAt wr 0 a5 F from ⟨by have := owns_cat hrow; rw [← hFc.out] at this; exact this, fun _ _ => Nat.zero_le _, fun k hk => (hka.out.body k (by rw [← hF2] at hk; exact (List.mem_filter.1 hk).1)).below Br, fun _ _ _ _ => Nat.zero_le _, fun k hk => hka.out.short k (by rw [← hF2] at hk; exact (List.mem_filter.1 hk).1)⟩)
      have hgf := hid (show getG (F.map KV.flat) r = if r ≤ fl then none else getG (ks.map KV.flat) r by
        rw [← get_filter, ← hF2, List.filter_map]; rfl)
      have hf8 := hid (show f ≤ 8 by have := hk8.out; have := hm.out; omega)
      replace hF2 := hid hF2
      unfold toldP at htold2
      cases hgt : getG (ks.map KV.flat) r with
      | some bb =>
        rw [hgt] at htold2
        simp only [Prod.mk.injEq] at htold2
        obtain ⟨rfl, rfl⟩ := htold2
        replace hgt := hid hgt
        by_cases s8 : r ≤ fl
        · have d8 : decide (r ≤ fl) = true := decide_eq_true s8
          replace s8 := hid s8
          have c0 := hcb.cell0
          have c1 := hcb.cell1
          have c2 := hcb.cell2
          replace hcb := hid hcb
          go_wp2_with fail
          refine (with_any (some ⟨b, o, none⟩) n c L id fl a5 f c5 F wr hL.out hLr.out hf.out hKF.out (by omega)).mono ?_
          rintro e w6 ⟨a6, c6, n6, L6, rfl, l6, f6, h6, b6⟩
          have hfl : L6.map CV.flat = putG (L.map CV.flat) (id, fl, F.map KV.flat) := f6.trans (wgo_put _ 0 _ hR.out.up)
          have hn6 : n6 = (putG (L.map CV.flat) (id, fl, F.map KV.flat)).length := by rw [← hfl, List.length_map, l6]
          have B6 := bnext Br b6
          replace f6 := hid f6
          replace hfl := hid hfl
          replace hn6 := hid hn6
          replace l6 := hid l6
          replace h6 := hid h6
          go_wp2
          (try simp only [Exit.inBlock, Exit.then])
          refine bodyPost_ret (results_tmp4 rfl _ _ _) rfl ?_
          rw [hset.out]
          have hj : judC (fl, F.map KV.flat) r = (3, []) := by unfold judC; rw [if_pos (show r ≤ _ by have := s8.out; simp only; omega)]
          rw [hj]
          refine ⟨a6, c6, L6, none, 0, ?_, hfl.out, h6.out, at_nil _ _, B6⟩
          rw [hn6.out]
          rfl
        · have d8 : decide (r ≤ fl) = false := decide_eq_false s8
          replace s8 := hid s8
          have c0 := hcb.cell0
          have c1 := hcb.cell1
          have c2 := hcb.cell2
          replace hcb := hid hcb
          go_wp2_with fail
          refine (with_any (some ⟨b, o, none⟩) n c L id fl a5 f c5 F wr hL.out hLr.out hf.out hKF.out (by omega)).mono ?_
          rintro e w6 ⟨a6, c6, n6, L6, rfl, l6, f6, h6, b6⟩
          have hfl : L6.map CV.flat = putG (L.map CV.flat) (id, fl, F.map KV.flat) := f6.trans (wgo_put _ 0 _ hR.out.up)
          have hn6 : n6 = (putG (L.map CV.flat) (id, fl, F.map KV.flat)).length := by rw [← hfl, List.length_map, l6]
          have B6 := bnext Br b6
          replace f6 := hid f6
          replace hfl := hid hfl
          replace hn6 := hid hn6
          replace l6 := hid l6
          replace h6 := hid h6
          go_wp2
          (try simp only [Exit.inBlock, Exit.then])
          refine bodyPost_ret (results_tmp4 rfl _ _ _) rfl ?_
          rw [hset.out]
          have hj : judC (fl, F.map KV.flat) r = (2, rb) := by unfold judC; rw [if_neg (show ¬ r ≤ _ by have := s8.out; simp only; omega), show getG (_, F.map KV.flat).2 r = some rb from hgf.out.trans ((if_neg (by have := s8.out; omega)).trans hgt.out)]
          rw [hj]
          refine ⟨a6, c6, L6, ra, rc, ?_, hfl.out, h6.out, (hrat.out.below Br).below b6, B6⟩
          rw [hn6.out, ← hrn.out]
          rfl
      | none =>
        rw [hgt] at htold2
        simp only [Prod.mk.injEq] at htold2
        obtain ⟨rfl, rfl⟩ := htold2
        replace hgt := hid hgt
        have hrn0 : rn = 0 := by rw [← hrn.out]; rfl
        by_cases s9 : 8 ≤ f
        · have d9 : decide ((8 : Int) ≤ (f : Int)) = true := decide_eq_true (by omega)
          replace s9 := hid s9
          by_cases s8 : r ≤ fl
          · have d8 : decide (r ≤ fl) = true := decide_eq_true s8
            replace s8 := hid s8
            have c0 := hcb.cell0
            have c1 := hcb.cell1
            have c2 := hcb.cell2
            replace hcb := hid hcb
            go_wp2_with fail
            refine (with_any (some ⟨b, o, none⟩) n c L id fl a5 f c5 F wr hL.out hLr.out hf.out hKF.out (by omega)).mono ?_
            rintro e w6 ⟨a6, c6, n6, L6, rfl, l6, f6, h6, b6⟩
            have hfl : L6.map CV.flat = putG (L.map CV.flat) (id, fl, F.map KV.flat) := f6.trans (wgo_put _ 0 _ hR.out.up)
            have hn6 : n6 = (putG (L.map CV.flat) (id, fl, F.map KV.flat)).length := by rw [← hfl, List.length_map, l6]
            have B6 := bnext Br b6
            replace f6 := hid f6
            replace hfl := hid hfl
            replace hn6 := hid hn6
            replace l6 := hid l6
            replace h6 := hid h6
            go_wp2
            (try simp only [Exit.inBlock, Exit.then])
            refine bodyPost_ret (results_tmp4 rfl _ _ _) rfl ?_
            rw [hset.out]
            have hj : judC (fl, F.map KV.flat) r = (3, []) := by unfold judC; rw [if_pos (show r ≤ _ by have := s8.out; simp only; omega)]
            rw [hj]
            refine ⟨a6, c6, L6, none, 0, ?_, hfl.out, h6.out, at_nil _ _, B6⟩
            rw [hn6.out]
            rfl
          · have d8 : decide (r ≤ fl) = false := decide_eq_false s8
            replace s8 := hid s8
            have c0 := hcb.cell0
            have c1 := hcb.cell1
            have c2 := hcb.cell2
            replace hcb := hid hcb
            go_wp2_with fail
            refine (with_any (some ⟨b, o, none⟩) n c L id fl a5 f c5 F wr hL.out hLr.out hf.out hKF.out (by omega)).mono ?_
            rintro e w6 ⟨a6, c6, n6, L6, rfl, l6, f6, h6, b6⟩
            have hfl : L6.map CV.flat = putG (L.map CV.flat) (id, fl, F.map KV.flat) := f6.trans (wgo_put _ 0 _ hR.out.up)
            have hn6 : n6 = (putG (L.map CV.flat) (id, fl, F.map KV.flat)).length := by rw [← hfl, List.length_map, l6]
            have B6 := bnext Br b6
            replace f6 := hid f6
            replace hfl := hid hfl
            replace hn6 := hid hn6
            replace l6 := hid l6
            replace h6 := hid h6
            go_wp2
            (try simp only [Exit.inBlock, Exit.then])
            refine bodyPost_ret (results_tmp4 rfl _ _ _) rfl ?_
            rw [hset.out]
            have hj : judC (fl, F.map KV.flat) r = (4, []) := by unfold judC; rw [if_neg (show ¬ r ≤ _ by have := s8.out; simp only; omega), show getG (_, F.map KV.flat).2 r = none from hgf.out.trans ((if_neg (by have := s8.out; omega)).trans hgt.out)]; show (if (F.map KV.flat).length = 8 then ((4 : Int), ([] : List UInt8)) else (1, [])) = _; rw [List.length_map, hf.out, if_pos (by have := s9.out; have := hf8.out; omega)]
            rw [hj]
            refine ⟨a6, c6, L6, ra, rc, ?_, hfl.out, h6.out, at_nil _ _, B6⟩
            rw [hn6.out]
            rfl
        · have d9 : decide ((8 : Int) ≤ (f : Int)) = false := decide_eq_false (by omega)
          replace s9 := hid s9
          by_cases s8 : r ≤ fl
          · have d8 : decide (r ≤ fl) = true := decide_eq_true s8
            replace s8 := hid s8
            have c0 := hcb.cell0
            have c1 := hcb.cell1
            have c2 := hcb.cell2
            replace hcb := hid hcb
            go_wp2_with fail
            refine (with_any (some ⟨b, o, none⟩) n c L id fl a5 f c5 F wr hL.out hLr.out hf.out hKF.out (by omega)).mono ?_
            rintro e w6 ⟨a6, c6, n6, L6, rfl, l6, f6, h6, b6⟩
            have hfl : L6.map CV.flat = putG (L.map CV.flat) (id, fl, F.map KV.flat) := f6.trans (wgo_put _ 0 _ hR.out.up)
            have hn6 : n6 = (putG (L.map CV.flat) (id, fl, F.map KV.flat)).length := by rw [← hfl, List.length_map, l6]
            have B6 := bnext Br b6
            replace f6 := hid f6
            replace hfl := hid hfl
            replace hn6 := hid hn6
            replace l6 := hid l6
            replace h6 := hid h6
            go_wp2
            (try simp only [Exit.inBlock, Exit.then])
            refine bodyPost_ret (results_tmp4 rfl _ _ _) rfl ?_
            rw [hset.out]
            have hj : judC (fl, F.map KV.flat) r = (3, []) := by unfold judC; rw [if_pos (show r ≤ _ by have := s8.out; simp only; omega)]
            rw [hj]
            refine ⟨a6, c6, L6, none, 0, ?_, hfl.out, h6.out, at_nil _ _, B6⟩
            rw [hn6.out]
            rfl
          · have d8 : decide (r ≤ fl) = false := decide_eq_false s8
            replace s8 := hid s8
            have c0 := hcb.cell0
            have c1 := hcb.cell1
            have c2 := hcb.cell2
            replace hcb := hid hcb
            go_wp2_with fail
            refine (with_any (some ⟨b, o, none⟩) n c L id fl a5 f c5 F wr hL.out hLr.out hf.out hKF.out (by omega)).mono ?_
            rintro e w6 ⟨a6, c6, n6, L6, rfl, l6, f6, h6, b6⟩
            have hfl : L6.map CV.flat = putG (L.map CV.flat) (id, fl, F.map KV.flat) := f6.trans (wgo_put _ 0 _ hR.out.up)
            have hn6 : n6 = (putG (L.map CV.flat) (id, fl, F.map KV.flat)).length := by rw [← hfl, List.length_map, l6]
            have B6 := bnext Br b6
            replace f6 := hid f6
            replace hfl := hid hfl
            replace hn6 := hid hn6
            replace l6 := hid l6
            replace h6 := hid h6
            go_wp2
            (try simp only [Exit.inBlock, Exit.then])
            refine bodyPost_ret (results_tmp4 rfl _ _ _) rfl ?_
            rw [hset.out]
            have hj : judC (fl, F.map KV.flat) r = (1, []) := by unfold judC; rw [if_neg (show ¬ r ≤ _ by have := s8.out; simp only; omega), show getG (_, F.map KV.flat).2 r = none from hgf.out.trans ((if_neg (by have := s8.out; omega)).trans hgt.out)]; show (if (F.map KV.flat).length = 8 then ((4 : Int), ([] : List UInt8)) else (1, [])) = _; rw [List.length_map, hf.out, if_neg (by have := s9.out; omega)]
            rw [hj]
            refine ⟨a6, c6, L6, ra, rc, ?_, hfl.out, h6.out, at_nil _ _, B6⟩
            rw [hn6.out]
            rfl

end Go.Proofs.Ythjggjjocfbjcaa
