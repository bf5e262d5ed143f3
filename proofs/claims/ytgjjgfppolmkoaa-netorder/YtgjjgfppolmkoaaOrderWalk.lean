/- NetOrder. -/
import Derived.Test.YtgjjgfppolmkoaaOrderBase
import Derived.Test.YtgjjgfppolmkoaaArg
namespace Go.Proofs.Ytgjjgfppolmkoaa
open Go.RowKit Go.Maps

/-- Behind j bodies that were sent. -/
def O1 (base p m : Nat) (T : List (Option Addr × Nat × List UInt8)) (w1 wr : World) (v : Value) (j : Nat) : Prop :=
  ∃ L, NAt wr p m L j ∧ nums L = upTo j ∧ OnWay T L ∧ L.length = j ∧ NOwn wr base v (upTo j) ∧ Kp (fun k => base ≤ k ∨ k = p ∨ k = m) w1 wr ∧ ∀ q ∈ L, ∀ x, q.a = some x → v.ownBlock ≠ some x.block

set_option maxRecDepth 100000 in
set_option maxHeartbeats 8000000 in
theorem order_any (ba oa : Option Addr) (bn bc on oc : Nat) (T : List (Option Addr × Nat × List UInt8)) (w : World) (hT : T.length = bn) (hTc : CAt w ba (T.map slT)) (hTa : ∀ t ∈ T, At w t.1 t.2.2) (ho : IAt w oa on) (hol : on ≤ 140737488355328) : Calls Try.prog 7 #[.slice ba bn bc, .slice oa on oc] w fun e w' => e = .returned (.bool true) ∧ Below w.heap.size w w' := by
  obtain ⟨i0, hi0, hz0, hz1, hz2⟩ := info_parts info3
  go_enter Try.func7, Try.ntmps7
  go_wp2_with fail
  refine (new_any _).mono ?_
  rintro e w1 ⟨p, m, rfl, hp, hm, h1, b1⟩
  obtain ⟨base, hbase⟩ : ∃ b, b = w1.heap.size := ⟨_, rfl⟩
  have hpb : p < base := by rw [hbase]; exact h1.lt
  have hmb : m < base := by rw [hbase]; exact h1.own.lt
  have hwb : w.heap.size ≤ base := by rw [hbase]; exact b1.size
  have hb0 : base ≤ w1.heap.size := by rw [hbase]; exact Nat.le_refl _
  replace hbase := hid hbase
  replace h1 := hid h1
  replace hT := hid hT
  go_wp2_with fail
  go_loopw [6, 7] (fun v i wr => ∃ j : Nat, j ≤ bn ∧ j ≤ 12 ∧ i = .int .i64 (j : Int) ∧ O1 base p m T w1 wr v j) (fun _ i _ => 12 - (intOf i).toNat)
  case atStart => exact ⟨0, Nat.zero_le _, Nat.zero_le _, rfl, [], h1.out, rfl, by intro q hq; simp at hq, rfl, World.ownsRow_nil _ _ _ _, Kp.refl _ _, by simp⟩
  case round =>
    obtain ⟨j, hjb, hj, rfl, L, hN, hnm, hW, hLl, hv, hK, hof⟩ := hrel
    have hB : Below w.heap.size w wr := b1.trans (hK.below (fun k e => by rcases e with e | e | e <;> omega) b1.size)
    have hzr := hK.size
    by_cases hlt : j < bn ∧ j < 12
    · have hlt1 := hlt.1
      have hlt2 := hlt.2
      have hjT : j < T.length := by rw [hT.out]; exact hlt1
      obtain ⟨bb, bo, hbe, hbc⟩ := hTc (by intro e; simp at e; rw [e] at hjT; simp at hjT)
      subst hbe
      have hcj := hbc j (by simpa using hjT)
      obtain ⟨tt, htt⟩ : ∃ tt, tt = T[j] := ⟨_, rfl⟩
      have hcj2 : wr.cell? ⟨bb, bo + j, none⟩ = some (.slice tt.1 tt.2.2.length tt.2.1) := by
        rw [hB.cell (p := ⟨bb, bo + j, none⟩) (World.block_lt_of_cell? w _ hcj), hcj, htt]
        simp [slT]
      have hat := (hTa tt (by rw [htt]; exact List.getElem_mem _))
      have hatr := hat.below hB
      obtain ⟨ta, tc, tl⟩ := tt
      simp only at hcj2 hatr
      obtain ⟨len, hlen⟩ : ∃ n, tl.length = n := ⟨_, rfl⟩
      rw [hlen] at hcj2
      replace hlen := hid hlen
      replace hnm := hid hnm
      replace hLl := hid hLl
      replace htt := hid htt
      replace hof := hid hof
      clear hlt hat hcj hbc
      by_cases hlong : 65545 < len
      · go_wp2_with fail
        refine (send_long (j : Int) 0 ta tc len _ hN hlong).mono ?_
        rintro e w2 ⟨rfl, rfl⟩
        go_wp2_with fail
        refine (awake_any _).mono ?_
        rintro e w3 ⟨rfl, b3⟩
        go_wp2
        go_ret
        exact ⟨rfl, bnext hB b3⟩
      · go_wp2_with fail
        refine (send_i (j : Int) 0 ta tc len tl _ hN hlen.out (by omega) (by omega) (by rw [hLl.out]; omega) hatr).mono ?_
        rintro e w2 ⟨q, rfl, n2, f2, t2, d2, o2, h2, k2⟩
        have hv2 := hv.kp k2 (fun k hk e => by have := (hv.lt k hk).1; rcases e with e | e <;> omega)
        have bl := below_lit w2 (.cells #[.int .i64 ((j : Int) + 1)] 3)
        have hv3 := owns_below hv2 bl
        rw [upTo_len] at hv3
        have hb3 : base ≤ (w2.alloc (.cells #[.int .i64 ((j : Int) + 1)] 3)).heap.size := Nat.le_trans hb0 (Nat.le_trans hzr (Nat.le_trans k2.size bl.size))
        have hcl := cat_lit w2 3 [.int .i64 ((j : Int) + 1)] _ rfl
        have hvl := hv.lt
        replace hv3 := hid hv3
        replace hb3 := hid hb3
        replace hcl := hid hcl
        replace n2 := hid n2
        replace f2 := hid f2
        replace t2 := hid t2
        replace d2 := hid d2
        replace h2 := hid h2
        replace bl := hid bl
        go_wp2_with (at_builtin; refine wpList_cat _ rfl (.tmp 45) (.tmp 47) 59 rfl base 3 i0 _ 1 8 Try.underlying59 hi0 hz0 hz1 hz2 rfl (by omega) u6 j ((upTo j).map I) rfl hv3.out (some ⟨w2.heap.size, 0, none⟩) 1 1 [.int .i64 ((j : Int) + 1)] rfl rfl hcl.out (by simp [Value.oneCell']) (by unfold maxLen; omega) (by omega) hb3.out ?_; intro v4 w4 hr4 hg4 hv4)
        go_roundw
        case rel =>
          have kg := Kp.grown hg4
          have hqb : ∀ q' ∈ L ++ [q], ∀ x, q'.a = some x → u6.ownBlock ≠ some x.block := fun q' hq' x hx e => by
            rcases List.mem_append.1 hq' with hq' | hq'
            · exact hof.out q' hq' x hx e
            · simp at hq'; subst hq'
              have := o2 x hx
              have := (hvl _ e).2
              omega
          have h3 := (h2.out.below bl.out).kp kg (fun e => by have := (hvl _ e).1; omega) (fun e => by have := (hvl _ e).1; omega) (fun q' hq' x hx e => hqb q' hq' x hx e)
          refine ⟨j + 1, by omega, by omega, by go_num, L ++ [q], h3, ?_, ?_, ?_, ?_, ?_, ?_⟩
          · rw [nums_snoc, hnm.out, upTo_succ, n2.out]; congr 2
          · intro q' hq'
            rcases List.mem_append.1 hq' with hq' | hq'
            · exact hW q' hq'
            · simp at hq'; subst hq'
              refine ⟨j, hjT, ?_⟩
              have e5 : (T.getD j (none, 0, [])).2.2 = tl := by
                rw [List.getD_eq_getElem?_getD, List.getElem?_eq_getElem hjT]
                simp [← htt.out]
              unfold Pk.flat sentOf
              rw [n2.out, f2.out, t2.out, d2.out, e5]
              congr 1
          · rw [List.length_append, hLl.out]; rfl
          · unfold NOwn
            rw [upTo_len, upTo_succ, List.map_append]
            exact hr4
          · exact (hK.trans (k2.mono (fun k _ e => .inr e))).trans (((Kp.of_below bl.out)).trans (kg.mono (fun k _ e => .inl (hvl k e).1)))
          · intro q' hq' x hx
            rcases hv4 with e | e
            · rw [e]; exact hqb q' hq' x hx
            · rw [e]; intro e2
              have := Option.some.inj e2
              have := (h2.out.below bl.out).bodies.lt q' hq' x hx
              omega
        case measure => simp [intOf]; omega
    · by_cases hjl2 : j < bn
      · have g1 : decide ((j : Int) < (bn : Int)) = true := decide_eq_true (by omega)
        have g2 : decide ((j : Int) < 12) = false := decide_eq_false (by omega)
        have hB : Below w.heap.size w wr := b1.trans (hK.below (fun k e => by rcases e with e | e | e <;> omega) b1.size)
        obtain ⟨na, nc, hnv, _⟩ := owns_form hv
        rw [upTo_len] at hnv
        subst hnv
        have hul := upTo_len j
        replace hul := hid hul
        replace hnm := hid hnm
        replace hLl := hid hLl
        go_wp2_with fail
        refine (copyints_any na j nc (upTo j) _ hul.out (by omega) (owns_cat hv)).mono ?_
        rintro e w2 ⟨v2, rfl, hv2, b2⟩
        obtain ⟨la, lc, hlv, hlc⟩ := owns_form hv2
        rw [hul.out] at hlv hlc
        subst hlv
        have hpw := hN.lt
        have hmw := hN.own.lt
        have hla := hv2.la (p := p) (m := m) hpw hmw
        have h2 := hN.below b2
        have K2 := hK.then b2
        rw [← hnm.out] at hla
        go_wp2_with fail
        go_loopw [10, 11] (fun v i wr => ∃ (n i2 : Nat) (a : Option Addr) (c : Nat), n + i2 = j ∧ v = .slice a n c ∧ i = .int .i64 (i2 : Int) ∧ O2 base p m j T w1 wr a n c) (fun v _ _ => sLen v)
        case atStart => exact ⟨j, 0, la, lc, by omega, rfl, rfl, L, h2, hW, hLl.out, hlc, hla, K2⟩
        case round =>
          clear hv hv2 hN h2 K2 hK hB b2 hla hof hnm
          obtain ⟨n, i2, a, c, hni, rfl, rfl, L, hN, hW, hLl, hnc, hla, hK⟩ := hrel
          have hB : Below w.heap.size w wr := b1.trans (hK.below (fun k e => by rcases e with e | e | e <;> omega) b1.size)
          by_cases hn0 : 0 < n
          · have hd0 : decide ((0 : Int) < (n : Int)) = true := decide_eq_true (by omega)
            obtain ⟨gb, gq, hga⟩ := hla.place (by intro e; unfold nums at e; rw [List.map_eq_nil_iff] at e; rw [e] at hLl; simp at hLl; omega)
            subst hga
            by_cases hon : 0 < on
            · have hd1 : decide ((0 : Int) < (on : Int)) = true := decide_eq_true (by omega)
              obtain ⟨ob, oo, hoe, hoc⟩ := ho hon
              subst hoe
              obtain ⟨ix, hix⟩ : ∃ ix, ix = i2 % on := ⟨_, rfl⟩
              have hmod : ix < on := by rw [hix]; exact Nat.mod_lt _ hon
              obtain ⟨z, hz⟩ := hoc ix hmod
              have hmi : (i2 : Int) % (on : Int) = (ix : Int) := by rw [hix]; simp
              have hz2 : wr.cell? ⟨ob, oo + ix, none⟩ = some (.int .i64 z) := by rw [hB.cell (p := ⟨ob, oo + ix, none⟩) (World.block_lt_of_cell? w _ hz)]; exact hz
              replace hix := hid hix
              have hi2 : i2 ≤ 12 := by omega
              have hn12 : n ≤ 12 := by omega
              have hni2 : Hid (n + i2 = j) := hni
              clear hni
              have hne : (on : Int) ≠ 0 := by omega
              go_wp2_with fail
              refine (pick_any z n _ hn0 (by omega)).mono ?_
              rintro e w3 ⟨⟨k, hk, rfl⟩, rfl⟩
              have hkL : k < L.length := by omega
              obtain ⟨q, hq⟩ : ∃ q, q = L[k] := ⟨_, rfl⟩
              have hmem : q ∈ L := by rw [hq]; exact List.getElem_mem _
              obtain ⟨i, hiT, hfl⟩ := hW q hmem
              have hn1 : q.num = (i : Int) + 1 := congrArg (fun x => x.1) hfl
              have hf1 : q.fr = (i : Int) := congrArg (fun x => x.2.1) hfl
              have ht1 : q.to = 0 := congrArg (fun x => x.2.2.1) hfl
              have hbd : q.body = (T.getD i (none, 0, [])).2.2 := congrArg (fun x => x.2.2.2) hfl
              have cz : w3.cell? ⟨gb, gq + k, none⟩ = some (.int .i64 ((i : Int) + 1)) := by
                have h9 := hla.cell k (by simp [nums]; omega)
                have e9 : (nums L)[k]'(by simp [nums]; omega) = (i : Int) + 1 := by simp [nums, ← hq, hn1]
                rw [e9] at h9
                exact h9
              obtain ⟨bb, bo, hbe, hbc⟩ := hTc (by intro e; simp at e; rw [e] at hiT; simp at hiT)
              subst hbe
              have hci := hbc i (by simpa using hiT)
              obtain ⟨tt, htt⟩ : ∃ tt, tt = T[i] := ⟨_, rfl⟩
              have cB : w3.cell? ⟨bb, bo + i, none⟩ = some (.slice tt.1 tt.2.2.length tt.2.1) := by
                rw [hB.cell (p := ⟨bb, bo + i, none⟩) (World.block_lt_of_cell? w _ hci), hci, htt]
                simp [slT]
              have hatB := (hTa tt (by rw [htt]; exact List.getElem_mem _)).below hB
              have hbd2 : q.body = tt.2.2 := by
                rw [hbd, htt, List.getD_eq_getElem?_getD, List.getElem?_eq_getElem hiT]
                rfl
              obtain ⟨ta, tc, tl⟩ := tt
              simp only at cB hatB hbd2
              have hibn : i < bn := by rw [← hT.out]; exact hiT
              have hin : (i : Int) + 1 ≤ (j : Int) := by have := (hN.nums q hmem).2; omega
              have hfind : findP L ((i : Int) + 1) = some q := by rw [← hn1]; exact find_of_mem hN.rise hmem
              have hdel := deliver_yes ((i : Int) + 1) q _ hN (wf_i (by omega) (by omega)) hfind
              rw [hn1, hf1, ht1, hbd2] at hdel
              obtain ⟨len, hlen⟩ : ∃ x, tl.length = x := ⟨_, rfl⟩
              rw [hlen] at hdel cB
              have hcut := nums_cut L hN.rise k hkL q hq
              rw [hn1] at hcut
              have hdl := del_len_in hN.rise (show (i : Int) + 1 ∈ nums L by rw [← hn1]; exact List.mem_map.2 ⟨q, hmem, rfl⟩)
              have hpw3 := hN.lt
              have hmw3 := hN.own.lt
              clear hfl hbd hbc hci
              replace hlen := hid hlen
              replace hdel := hid hdel
              replace hq := hid hq
              replace hn1 := hid hn1
              replace hf1 := hid hf1
              replace ht1 := hid ht1
              replace hbd2 := hid hbd2
              replace htt := hid htt
              replace hfind := hid hfind
              replace hcut := hid hcut
              replace hdl := hid hdl
              replace hLl := hid hLl
              go_wp2_with fail
              refine hdel.out.mono ?_
              rintro e w5 ⟨a5, c5, rfl, ho5, h5, k5⟩
              have bl6 := below_lit w5 (.cells #[.int .i64 ((i : Int) + 1), .int .i64 (i : Int), .int .i64 0, .slice a5 len c5] 31)
              have P6 := PBlk.new w5 (.int .i64 ((i : Int) + 1)) (.int .i64 (i : Int)) (.int .i64 0) (.slice a5 len c5)
              have hT5 : ∀ k, Turn p m k → k = p ∨ k = m := fun _ e => e
              have la6 := (hla.kp k5 hT5).below bl6
              have h6 := h5.below bl6
              have ho6 := ho5.below bl6
              have K6 := (hK.trans (k5.mono (fun k _ e => .inr e))).then bl6
              have B6 : Below w.heap.size w (w5.alloc (.cells #[.int .i64 ((i : Int) + 1), .int .i64 (i : Int), .int .i64 0, .slice a5 len c5] 31)) := b1.trans (K6.below (fun k e => by rcases e with e | e | e <;> omega) b1.size)
              have cz6 := kp_cell (T := fun _ => False) (Kp.of_below bl6) (kp_cell k5 cz (fun e => by have := hla.off ⟨gb, gq, none⟩ rfl; rcases e with e | e; exact this.1 e; exact this.2 e)) (fun h => h)
              have cB6 : (w5.alloc (.cells #[.int .i64 ((i : Int) + 1), .int .i64 (i : Int), .int .i64 0, .slice a5 len c5] 31)).cell? ⟨bb, bo + i, none⟩ = some (.slice ta len tc) := by
                have hcw := hTc (by intro e; simp at e; rw [e] at hiT; simp at hiT)
                obtain ⟨b9, o9, e9, h9⟩ := hcw
                cases e9
                have h10 := h9 i (by simpa using hiT)
                rw [B6.cell (p := ⟨bb, bo + i, none⟩) (World.block_lt_of_cell? w _ h10), h10]
                simp [slT, ← htt.out, hlen.out]
              have hatB6 : At (w5.alloc (.cells #[.int .i64 ((i : Int) + 1), .int .i64 (i : Int), .int .i64 0, .slice a5 len c5] 31)) ta tl := (hTa (ta, tc, tl) (by rw [htt.out]; exact List.getElem_mem _)).below B6
              clear h5
              replace P6 := hid P6
              go_wp2_with fail
              obtain ⟨g5, hg5⟩ : ∃ g, g = w5.heap.size := ⟨_, rfl⟩
              rw [← hg5] at P6 ⊢
              generalize w5.alloc (.cells #[.int .i64 ((i : Int) + 1), .int .i64 (i : Int), .int .i64 0, .slice a5 len c5] 31) = w6 at *
              have q0 := P6.out.cell0
              have q1 := P6.out.cell1
              have q3 := P6.out.cell3
              replace hg5 := hid hg5
              have bd := drew_below w6
              have d0 := stay bd q0
              have d1 := stay bd q1
              have d3 := stay bd q3
              have dz := stay bd cz6
              have dB := stay bd cB6
              have hatd := hatB6.below bd
              have hod := (own_at ho6).below bd
              have la7 := la6.below bd
              have h7 := h6.below bd
              have K7 := K6.then bd
              have B7 := bnext B6 bd
              clear cz cB bl6 hpw hmw
              have hlen2 := hid hlen.out
              have hwr1 : IntKind.i64.wrap ((i : Int) + 1 - 1) = (i : Int) := by rw [IntKind.wrap_i64]; omega
              have hwr2 : IntKind.i64.wrap (i : Int) = (i : Int) := by rw [IntKind.wrap_i64]; omega
              go_region_held (fun w' : World => w'.cell? ⟨g5, 0, none⟩ = some (.int .i64 ((i : Int) + 1)) ∧ w'.cell? ⟨g5, 1, none⟩ = some (.int .i64 (i : Int)) ∧ w'.cell? ⟨g5, 3, none⟩ = some (.slice a5 len c5) ∧ w'.cell? ⟨gb, gq + k, none⟩ = some (.int .i64 ((i : Int) + 1)) ∧ w'.cell? ⟨bb, bo + i, none⟩ = some (.slice ta len tc)) (exact ⟨d0, d1, d3, dz, dB⟩)
                (first | (go_at_call 25; refine (same_any a5 ta len len c5 tc tl tl _ hlen2.out hlen2.out hod hatd rfl).mono ?_; rintro e w7 ⟨rfl, rfl⟩))
              have bd2 := drew_below w6.drew
              have la8 := la7.below bd2
              have h8 := h7.below bd2
              have K8 := K7.then bd2
              have hXl : ((nums L).take k).length = k := by rw [List.length_take]; unfold nums; rw [List.length_map]; omega
              have hYl : ((nums L).drop (k + 1)).length = n - (k + 1) := by simp [nums, hLl.out]
              have hrest := la8.rest (k := k + 1) (c := c) (by simp [nums, hLl.out]; exact hnc)
              obtain ⟨y, hy⟩ : ∃ y : Option Addr, (if c = k + 1 then some (⟨gb, gq, none⟩ : Addr) else some ⟨gb, gq + (k + 1), none⟩) = y := ⟨_, rfl⟩
              rw [hy] at hrest
              obtain ⟨a9, c9, w9, hrun, la9, hc9, b9⟩ := app_rest w6.drew.drew p m gb gq k (c - (k + 1)) (n - (k + 1)) y ((nums L).take k) ((nums L).drop (k + 1)) (la8.take k) hrest hXl hYl (by omega) h8.lt h8.own.lt
              obtain ⟨n1, hn1e⟩ : ∃ n1, n1 = k + (n - (k + 1)) := ⟨_, rfl⟩
              have hn1n : n1 + 1 = n := by omega
              rw [← hn1e] at hrun hc9
              rw [← hcut.out] at la9
              have h9 := h8.below b9
              have K9 := K8.then b9
              have hkc : k ≤ c := by omega
              have hk1c : k + 1 ≤ c := by omega
              replace hn1e := hid hn1e
              replace hXl := hid hXl
              replace hYl := hid hYl
              clear d0 d1 d3 dz dB q0 q1 q3 cz6 cB6
              have hw11 : IntKind.i64.wrap 1 = 1 := by rw [IntKind.wrap_i64]; omega
              have hn1i : (1 : Int) ≤ (n : Int) := by omega
              have hk1a : 0 ≤ (k : Int) + 1 := by omega
              have hk1b : (k : Int) + 1 ≤ (n : Int) := by omega
              have hwrk : IntKind.i64.wrap ((k : Int) + 1) = (k : Int) + 1 := by rw [IntKind.wrap_i64]; omega
              go_wp2_with fail
              go_region_law (simp only [Act.put, List.getElem_toArray, List.getElem_cons_zero, List.getElem_cons_succ, List.setIfInBounds_toArray, List.set_cons_zero, List.set_cons_succ]; (try simp only [hy]); refine step_bi rfl (.tmp 116) (.tmp 120) rfl rfl (.slice (some ⟨gb, gq, none⟩) k k) (.slice y (n - (k + 1)) (c - (k + 1))) (.slice a9 n1 c9) rfl rfl hrun ?_)
              go_wp2_with fail
              refine (list_any _ h9 (by have := hdl.out; have := hLl.out; omega) (by omega)).mono ?_
              rintro e w10 ⟨v10, Q10, rfl, hQ10, hP10, b10⟩
              have hL1 : (delP L ((i : Int) + 1)).length = n1 := by have := hdl.out; have := hLl.out; omega
              have hQl : Q10.length = n1 := by have := congrArg List.length hQ10; rw [List.length_map, List.length_map, hL1] at this; exact this
              have hrow := hP10.row
              rw [hQl] at hrow
              obtain ⟨ra, rc, rfl, _⟩ := owns_form hrow
              have la10 := la9.below b10
              have h10 := h9.below b10
              have K10 := K9.then b10
              have hWd := hW.del ((i : Int) + 1)
              generalize delP L ((i : Int) + 1) = L1 at *
              replace hrow := hid hrow
              replace hQ10 := hid hQ10
              replace hQl := hid hQl
              replace hL1 := hid hL1
              replace hP10 := hid hP10
              go_wp2_with fail
              go_loopw [16] (fun i wr => ∃ i3 : Nat, i3 ≤ n1 ∧ i = .int .i64 (i3 : Int) ∧ Below w10.heap.size w10 wr) (fun i _ => n1 - (intOf i).toNat)
              case atStart => exact ⟨0, Nat.zero_le _, rfl, Below.refl _ _⟩
              case round =>
                obtain ⟨i3, hi3, rfl, hb3⟩ := hrel
                by_cases hlt3 : i3 < n1
                · have hiL : i3 < L1.length := by rw [hL1.out]; exact hlt3
                  have hiQ : i3 < Q10.length := by rw [hQl.out]; exact hlt3
                  obtain ⟨xb, xo, hxe⟩ := la10.place (by intro e; unfold nums at e; rw [List.map_eq_nil_iff] at e; rw [e] at hiL; simp at hiL)
                  subst hxe
                  obtain ⟨rb, ro, hre, _⟩ := owns_cat hrow.out (by intro e; have := cells_len Q10; rw [e, hQl.out] at this; simp at this; omega)
                  subst hre
                  have hfl : Q10[i3].num = L1[i3].num := by
                    have := congrArg (fun l => l[i3]?) hQ10.out
                    have h2 : Q10[i3].flat = L1[i3].flat := by simpa [hiQ, hiL] using this
                    exact congrArg (fun x => x.1) h2
                  have x1 := stay hb3 (hP10.out.packet i3 hiQ).1
                  have x2 := stay hb3 (la10.cell i3 (by simpa [nums] using hiL))
                  have e2 : (nums L1)[i3]'(by simpa [nums] using hiL) = L1[i3].num := by simp [nums]
                  rw [e2] at x2
                  rw [hfl] at x1
                  generalize L1[i3].num = X at x1 x2
                  clear hfl e2
                  go_wp2_with fail
                  go_quiet (fail)
                  have bq := below_drewN (Below.refl wr.heap.size wr) nq
                  generalize wr.drewN nq = wq at bq ⊢
                  go_wp2_with fail
                  go_roundw
                  case rel => exact ⟨i3 + 1, by omega, by go_num, bnext hb3 bq⟩
                  case measure => simp [intOf]; omega
                · obtain rfl : i3 = n1 := by omega
                  go_wp2_with fail
                  go_roundw
                  case rel => exact ⟨i3, i2 + 1, a9, c9, by have := hni2.out; omega, rfl, by go_num, L1, h10.below hb3, hWd, hL1.out, hc9, la10.below hb3, K10.then hb3⟩
                  case measure => simp [sLen]; omega
            · have hd1 : decide ((0 : Int) < (on : Int)) = false := decide_eq_false (by omega)
              have hi2 : i2 ≤ 12 := by omega
              have hn12 : n ≤ 12 := by omega
              have hni2 : Hid (n + i2 = j) := hni
              clear hni
              have hkL : 0 < L.length := by omega
              obtain ⟨q, hq⟩ : ∃ q, q = L[0] := ⟨_, rfl⟩
              have hmem : q ∈ L := by rw [hq]; exact List.getElem_mem _
              obtain ⟨i, hiT, hfl⟩ := hW q hmem
              have hn1 : q.num = (i : Int) + 1 := congrArg (fun x => x.1) hfl
              have hf1 : q.fr = (i : Int) := congrArg (fun x => x.2.1) hfl
              have ht1 : q.to = 0 := congrArg (fun x => x.2.2.1) hfl
              have hbd : q.body = (T.getD i (none, 0, [])).2.2 := congrArg (fun x => x.2.2.2) hfl
              have cz : wr.cell? ⟨gb, gq, none⟩ = some (.int .i64 ((i : Int) + 1)) := by
                have h9 := hla.cell 0 (by simp [nums]; omega)
                have e9 : (nums L)[0]'(by simp [nums]; omega) = (i : Int) + 1 := by simp [nums, ← hq, hn1]
                rw [e9] at h9
                exact h9
              obtain ⟨bb, bo, hbe, hbc⟩ := hTc (by intro e; simp at e; rw [e] at hiT; simp at hiT)
              subst hbe
              have hci := hbc i (by simpa using hiT)
              obtain ⟨tt, htt⟩ : ∃ tt, tt = T[i] := ⟨_, rfl⟩
              have cB : wr.cell? ⟨bb, bo + i, none⟩ = some (.slice tt.1 tt.2.2.length tt.2.1) := by
                rw [hB.cell (p := ⟨bb, bo + i, none⟩) (World.block_lt_of_cell? w _ hci), hci, htt]
                simp [slT]
              have hatB := (hTa tt (by rw [htt]; exact List.getElem_mem _)).below hB
              have hbd2 : q.body = tt.2.2 := by
                rw [hbd, htt, List.getD_eq_getElem?_getD, List.getElem?_eq_getElem hiT]
                rfl
              obtain ⟨ta, tc, tl⟩ := tt
              simp only at cB hatB hbd2
              have hibn : i < bn := by rw [← hT.out]; exact hiT
              have hin : (i : Int) + 1 ≤ (j : Int) := by have := (hN.nums q hmem).2; omega
              have hfind : findP L ((i : Int) + 1) = some q := by rw [← hn1]; exact find_of_mem hN.rise hmem
              have hdel := deliver_yes ((i : Int) + 1) q _ hN (wf_i (by omega) (by omega)) hfind
              rw [hn1, hf1, ht1, hbd2] at hdel
              obtain ⟨len, hlen⟩ : ∃ x, tl.length = x := ⟨_, rfl⟩
              rw [hlen] at hdel cB
              have hcut := nums_cut L hN.rise 0 hkL q hq
              rw [hn1] at hcut
              have hdl := del_len_in hN.rise (show (i : Int) + 1 ∈ nums L by rw [← hn1]; exact List.mem_map.2 ⟨q, hmem, rfl⟩)
              have hpw3 := hN.lt
              have hmw3 := hN.own.lt
              clear hfl hbd hbc hci
              replace hlen := hid hlen
              replace hdel := hid hdel
              replace hq := hid hq
              replace hn1 := hid hn1
              replace hf1 := hid hf1
              replace ht1 := hid ht1
              replace hbd2 := hid hbd2
              replace htt := hid htt
              replace hfind := hid hfind
              replace hcut := hid hcut
              replace hdl := hid hdl
              replace hLl := hid hLl
              go_wp2_with fail
              refine hdel.out.mono ?_
              rintro e w5 ⟨a5, c5, rfl, ho5, h5, k5⟩
              have bl6 := below_lit w5 (.cells #[.int .i64 ((i : Int) + 1), .int .i64 (i : Int), .int .i64 0, .slice a5 len c5] 31)
              have P6 := PBlk.new w5 (.int .i64 ((i : Int) + 1)) (.int .i64 (i : Int)) (.int .i64 0) (.slice a5 len c5)
              have hT5 : ∀ k, Turn p m k → k = p ∨ k = m := fun _ e => e
              have la6 := (hla.kp k5 hT5).below bl6
              have h6 := h5.below bl6
              have ho6 := ho5.below bl6
              have K6 := (hK.trans (k5.mono (fun k _ e => .inr e))).then bl6
              have B6 : Below w.heap.size w (w5.alloc (.cells #[.int .i64 ((i : Int) + 1), .int .i64 (i : Int), .int .i64 0, .slice a5 len c5] 31)) := b1.trans (K6.below (fun k e => by rcases e with e | e | e <;> omega) b1.size)
              have cz6 := kp_cell (T := fun _ => False) (Kp.of_below bl6) (kp_cell k5 cz (fun e => by have := hla.off ⟨gb, gq, none⟩ rfl; rcases e with e | e; exact this.1 e; exact this.2 e)) (fun h => h)
              have cB6 : (w5.alloc (.cells #[.int .i64 ((i : Int) + 1), .int .i64 (i : Int), .int .i64 0, .slice a5 len c5] 31)).cell? ⟨bb, bo + i, none⟩ = some (.slice ta len tc) := by
                have hcw := hTc (by intro e; simp at e; rw [e] at hiT; simp at hiT)
                obtain ⟨b9, o9, e9, h9⟩ := hcw
                cases e9
                have h10 := h9 i (by simpa using hiT)
                rw [B6.cell (p := ⟨bb, bo + i, none⟩) (World.block_lt_of_cell? w _ h10), h10]
                simp [slT, ← htt.out, hlen.out]
              have hatB6 : At (w5.alloc (.cells #[.int .i64 ((i : Int) + 1), .int .i64 (i : Int), .int .i64 0, .slice a5 len c5] 31)) ta tl := (hTa (ta, tc, tl) (by rw [htt.out]; exact List.getElem_mem _)).below B6
              clear h5
              replace P6 := hid P6
              go_wp2_with fail
              obtain ⟨g5, hg5⟩ : ∃ g, g = w5.heap.size := ⟨_, rfl⟩
              rw [← hg5] at P6 ⊢
              generalize w5.alloc (.cells #[.int .i64 ((i : Int) + 1), .int .i64 (i : Int), .int .i64 0, .slice a5 len c5] 31) = w6 at *
              have q0 := P6.out.cell0
              have q1 := P6.out.cell1
              have q3 := P6.out.cell3
              replace hg5 := hid hg5
              have bd := drew_below w6
              have d0 := stay bd q0
              have d1 := stay bd q1
              have d3 := stay bd q3
              have dz := stay bd cz6
              have dB := stay bd cB6
              have hatd := hatB6.below bd
              have hod := (own_at ho6).below bd
              have la7 := la6.below bd
              have h7 := h6.below bd
              have K7 := K6.then bd
              have B7 := bnext B6 bd
              clear cz cB bl6 hpw hmw
              have hlen2 := hid hlen.out
              have hwr1 : IntKind.i64.wrap ((i : Int) + 1 - 1) = (i : Int) := by rw [IntKind.wrap_i64]; omega
              have hwr2 : IntKind.i64.wrap (i : Int) = (i : Int) := by rw [IntKind.wrap_i64]; omega
              go_region_held (fun w' : World => w'.cell? ⟨g5, 0, none⟩ = some (.int .i64 ((i : Int) + 1)) ∧ w'.cell? ⟨g5, 1, none⟩ = some (.int .i64 (i : Int)) ∧ w'.cell? ⟨g5, 3, none⟩ = some (.slice a5 len c5) ∧ w'.cell? ⟨gb, gq, none⟩ = some (.int .i64 ((i : Int) + 1)) ∧ w'.cell? ⟨bb, bo + i, none⟩ = some (.slice ta len tc)) (exact ⟨d0, d1, d3, dz, dB⟩)
                (first | (go_at_call 25; refine (same_any a5 ta len len c5 tc tl tl _ hlen2.out hlen2.out hod hatd rfl).mono ?_; rintro e w7 ⟨rfl, rfl⟩))
              have bd2 := drew_below w6.drew
              have la8 := la7.below bd2
              have h8 := h7.below bd2
              have K8 := K7.then bd2
              have hXl : ((nums L).take 0).length = 0 := by rw [List.length_take]; unfold nums; rw [List.length_map]; omega
              have hYl : ((nums L).drop (1)).length = n - (1) := by simp [nums, hLl.out]
              have hrest := la8.rest (k := 1) (c := c) (by simp [nums, hLl.out]; exact hnc)
              obtain ⟨y, hy⟩ : ∃ y : Option Addr, (if c = 1 then some (⟨gb, gq, none⟩ : Addr) else some ⟨gb, gq + (1), none⟩) = y := ⟨_, rfl⟩
              rw [hy] at hrest
              obtain ⟨a9, c9, w9, hrun, la9, hc9, b9⟩ := app_rest w6.drew.drew p m gb gq 0 (c - (1)) (n - (1)) y ((nums L).take 0) ((nums L).drop (1)) (la8.take 0) hrest hXl hYl (by omega) h8.lt h8.own.lt
              obtain ⟨n1, hn1e⟩ : ∃ n1, n1 = 0 + (n - (1)) := ⟨_, rfl⟩
              have hn1n : n1 + 1 = n := by omega
              rw [← hn1e] at hrun hc9
              rw [← hcut.out] at la9
              have h9 := h8.below b9
              have K9 := K8.then b9
              have hkc : 0 ≤ c := by omega
              have hk1c : 1 ≤ c := by omega
              replace hn1e := hid hn1e
              replace hXl := hid hXl
              replace hYl := hid hYl
              clear d0 d1 d3 dz dB q0 q1 q3 cz6 cB6
              have hw11 : IntKind.i64.wrap 1 = 1 := by rw [IntKind.wrap_i64]; omega
              have hn1i : (1 : Int) ≤ (n : Int) := by omega
              have hk1a : 0 ≤ (0 : Int) + 1 := by omega
              have hk1b : (0 : Int) + 1 ≤ (n : Int) := by omega
              have hwrk : IntKind.i64.wrap ((0 : Int) + 1) = (0 : Int) + 1 := by rw [IntKind.wrap_i64]; omega
              go_wp2_with fail
              go_region_law (simp only [Act.put, List.getElem_toArray, List.getElem_cons_zero, List.getElem_cons_succ, List.setIfInBounds_toArray, List.set_cons_zero, List.set_cons_succ]; (try simp only [hy]); refine step_bi rfl (.tmp 116) (.tmp 120) rfl rfl (.slice (some ⟨gb, gq, none⟩) 0 0) (.slice y (n - (1)) (c - (1))) (.slice a9 n1 c9) rfl rfl hrun ?_)
              go_wp2_with fail
              refine (list_any _ h9 (by have := hdl.out; have := hLl.out; omega) (by omega)).mono ?_
              rintro e w10 ⟨v10, Q10, rfl, hQ10, hP10, b10⟩
              have hL1 : (delP L ((i : Int) + 1)).length = n1 := by have := hdl.out; have := hLl.out; omega
              have hQl : Q10.length = n1 := by have := congrArg List.length hQ10; rw [List.length_map, List.length_map, hL1] at this; exact this
              have hrow := hP10.row
              rw [hQl] at hrow
              obtain ⟨ra, rc, rfl, _⟩ := owns_form hrow
              have la10 := la9.below b10
              have h10 := h9.below b10
              have K10 := K9.then b10
              have hWd := hW.del ((i : Int) + 1)
              generalize delP L ((i : Int) + 1) = L1 at *
              replace hrow := hid hrow
              replace hQ10 := hid hQ10
              replace hQl := hid hQl
              replace hL1 := hid hL1
              replace hP10 := hid hP10
              go_wp2_with fail
              go_loopw [16] (fun i wr => ∃ i3 : Nat, i3 ≤ n1 ∧ i = .int .i64 (i3 : Int) ∧ Below w10.heap.size w10 wr) (fun i _ => n1 - (intOf i).toNat)
              case atStart => exact ⟨0, Nat.zero_le _, rfl, Below.refl _ _⟩
              case round =>
                obtain ⟨i3, hi3, rfl, hb3⟩ := hrel
                by_cases hlt3 : i3 < n1
                · have hiL : i3 < L1.length := by rw [hL1.out]; exact hlt3
                  have hiQ : i3 < Q10.length := by rw [hQl.out]; exact hlt3
                  obtain ⟨xb, xo, hxe⟩ := la10.place (by intro e; unfold nums at e; rw [List.map_eq_nil_iff] at e; rw [e] at hiL; simp at hiL)
                  subst hxe
                  obtain ⟨rb, ro, hre, _⟩ := owns_cat hrow.out (by intro e; have := cells_len Q10; rw [e, hQl.out] at this; simp at this; omega)
                  subst hre
                  have hfl : Q10[i3].num = L1[i3].num := by
                    have := congrArg (fun l => l[i3]?) hQ10.out
                    have h2 : Q10[i3].flat = L1[i3].flat := by simpa [hiQ, hiL] using this
                    exact congrArg (fun x => x.1) h2
                  have x1 := stay hb3 (hP10.out.packet i3 hiQ).1
                  have x2 := stay hb3 (la10.cell i3 (by simpa [nums] using hiL))
                  have e2 : (nums L1)[i3]'(by simpa [nums] using hiL) = L1[i3].num := by simp [nums]
                  rw [e2] at x2
                  rw [hfl] at x1
                  generalize L1[i3].num = X at x1 x2
                  clear hfl e2
                  go_wp2_with fail
                  go_quiet (fail)
                  have bq := below_drewN (Below.refl wr.heap.size wr) nq
                  generalize wr.drewN nq = wq at bq ⊢
                  go_wp2_with fail
                  go_roundw
                  case rel => exact ⟨i3 + 1, by omega, by go_num, bnext hb3 bq⟩
                  case measure => simp [intOf]; omega
                · obtain rfl : i3 = n1 := by omega
                  go_wp2_with fail
                  go_roundw
                  case rel => exact ⟨i3, i2 + 1, a9, c9, by have := hni2.out; omega, rfl, by go_num, L1, h10.below hb3, hWd, hL1.out, hc9, la10.below hb3, K10.then hb3⟩
                  case measure => simp [sLen]; omega
          · obtain rfl : n = 0 := by omega
            go_wp2_with fail
            refine (awake_any _).mono ?_
            rintro e w3 ⟨rfl, b3⟩
            go_wp2
            go_ret
            exact ⟨rfl, bnext hB b3⟩

      · have g1 : decide ((j : Int) < (bn : Int)) = false := decide_eq_false (by omega)
        have hB : Below w.heap.size w wr := b1.trans (hK.below (fun k e => by rcases e with e | e | e <;> omega) b1.size)
        obtain ⟨na, nc, hnv, _⟩ := owns_form hv
        rw [upTo_len] at hnv
        subst hnv
        have hul := upTo_len j
        replace hul := hid hul
        replace hnm := hid hnm
        replace hLl := hid hLl
        go_wp2_with fail
        refine (copyints_any na j nc (upTo j) _ hul.out (by omega) (owns_cat hv)).mono ?_
        rintro e w2 ⟨v2, rfl, hv2, b2⟩
        obtain ⟨la, lc, hlv, hlc⟩ := owns_form hv2
        rw [hul.out] at hlv hlc
        subst hlv
        have hpw := hN.lt
        have hmw := hN.own.lt
        have hla := hv2.la (p := p) (m := m) hpw hmw
        have h2 := hN.below b2
        have K2 := hK.then b2
        rw [← hnm.out] at hla
        go_wp2_with fail
        go_loopw [10, 11] (fun v i wr => ∃ (n i2 : Nat) (a : Option Addr) (c : Nat), n + i2 = j ∧ v = .slice a n c ∧ i = .int .i64 (i2 : Int) ∧ O2 base p m j T w1 wr a n c) (fun v _ _ => sLen v)
        case atStart => exact ⟨j, 0, la, lc, by omega, rfl, rfl, L, h2, hW, hLl.out, hlc, hla, K2⟩
        case round =>
          clear hv hv2 hN h2 K2 hK hB b2 hla hof hnm
          obtain ⟨n, i2, a, c, hni, rfl, rfl, L, hN, hW, hLl, hnc, hla, hK⟩ := hrel
          have hB : Below w.heap.size w wr := b1.trans (hK.below (fun k e => by rcases e with e | e | e <;> omega) b1.size)
          by_cases hn0 : 0 < n
          · have hd0 : decide ((0 : Int) < (n : Int)) = true := decide_eq_true (by omega)
            obtain ⟨gb, gq, hga⟩ := hla.place (by intro e; unfold nums at e; rw [List.map_eq_nil_iff] at e; rw [e] at hLl; simp at hLl; omega)
            subst hga
            by_cases hon : 0 < on
            · have hd1 : decide ((0 : Int) < (on : Int)) = true := decide_eq_true (by omega)
              obtain ⟨ob, oo, hoe, hoc⟩ := ho hon
              subst hoe
              obtain ⟨ix, hix⟩ : ∃ ix, ix = i2 % on := ⟨_, rfl⟩
              have hmod : ix < on := by rw [hix]; exact Nat.mod_lt _ hon
              obtain ⟨z, hz⟩ := hoc ix hmod
              have hmi : (i2 : Int) % (on : Int) = (ix : Int) := by rw [hix]; simp
              have hz2 : wr.cell? ⟨ob, oo + ix, none⟩ = some (.int .i64 z) := by rw [hB.cell (p := ⟨ob, oo + ix, none⟩) (World.block_lt_of_cell? w _ hz)]; exact hz
              replace hix := hid hix
              have hi2 : i2 ≤ 12 := by omega
              have hn12 : n ≤ 12 := by omega
              have hni2 : Hid (n + i2 = j) := hni
              clear hni
              have hne : (on : Int) ≠ 0 := by omega
              go_wp2_with fail
              refine (pick_any z n _ hn0 (by omega)).mono ?_
              rintro e w3 ⟨⟨k, hk, rfl⟩, rfl⟩
              have hkL : k < L.length := by omega
              obtain ⟨q, hq⟩ : ∃ q, q = L[k] := ⟨_, rfl⟩
              have hmem : q ∈ L := by rw [hq]; exact List.getElem_mem _
              obtain ⟨i, hiT, hfl⟩ := hW q hmem
              have hn1 : q.num = (i : Int) + 1 := congrArg (fun x => x.1) hfl
              have hf1 : q.fr = (i : Int) := congrArg (fun x => x.2.1) hfl
              have ht1 : q.to = 0 := congrArg (fun x => x.2.2.1) hfl
              have hbd : q.body = (T.getD i (none, 0, [])).2.2 := congrArg (fun x => x.2.2.2) hfl
              have cz : w3.cell? ⟨gb, gq + k, none⟩ = some (.int .i64 ((i : Int) + 1)) := by
                have h9 := hla.cell k (by simp [nums]; omega)
                have e9 : (nums L)[k]'(by simp [nums]; omega) = (i : Int) + 1 := by simp [nums, ← hq, hn1]
                rw [e9] at h9
                exact h9
              obtain ⟨bb, bo, hbe, hbc⟩ := hTc (by intro e; simp at e; rw [e] at hiT; simp at hiT)
              subst hbe
              have hci := hbc i (by simpa using hiT)
              obtain ⟨tt, htt⟩ : ∃ tt, tt = T[i] := ⟨_, rfl⟩
              have cB : w3.cell? ⟨bb, bo + i, none⟩ = some (.slice tt.1 tt.2.2.length tt.2.1) := by
                rw [hB.cell (p := ⟨bb, bo + i, none⟩) (World.block_lt_of_cell? w _ hci), hci, htt]
                simp [slT]
              have hatB := (hTa tt (by rw [htt]; exact List.getElem_mem _)).below hB
              have hbd2 : q.body = tt.2.2 := by
                rw [hbd, htt, List.getD_eq_getElem?_getD, List.getElem?_eq_getElem hiT]
                rfl
              obtain ⟨ta, tc, tl⟩ := tt
              simp only at cB hatB hbd2
              have hibn : i < bn := by rw [← hT.out]; exact hiT
              have hin : (i : Int) + 1 ≤ (j : Int) := by have := (hN.nums q hmem).2; omega
              have hfind : findP L ((i : Int) + 1) = some q := by rw [← hn1]; exact find_of_mem hN.rise hmem
              have hdel := deliver_yes ((i : Int) + 1) q _ hN (wf_i (by omega) (by omega)) hfind
              rw [hn1, hf1, ht1, hbd2] at hdel
              obtain ⟨len, hlen⟩ : ∃ x, tl.length = x := ⟨_, rfl⟩
              rw [hlen] at hdel cB
              have hcut := nums_cut L hN.rise k hkL q hq
              rw [hn1] at hcut
              have hdl := del_len_in hN.rise (show (i : Int) + 1 ∈ nums L by rw [← hn1]; exact List.mem_map.2 ⟨q, hmem, rfl⟩)
              have hpw3 := hN.lt
              have hmw3 := hN.own.lt
              clear hfl hbd hbc hci
              replace hlen := hid hlen
              replace hdel := hid hdel
              replace hq := hid hq
              replace hn1 := hid hn1
              replace hf1 := hid hf1
              replace ht1 := hid ht1
              replace hbd2 := hid hbd2
              replace htt := hid htt
              replace hfind := hid hfind
              replace hcut := hid hcut
              replace hdl := hid hdl
              replace hLl := hid hLl
              go_wp2_with fail
              refine hdel.out.mono ?_
              rintro e w5 ⟨a5, c5, rfl, ho5, h5, k5⟩
              have bl6 := below_lit w5 (.cells #[.int .i64 ((i : Int) + 1), .int .i64 (i : Int), .int .i64 0, .slice a5 len c5] 31)
              have P6 := PBlk.new w5 (.int .i64 ((i : Int) + 1)) (.int .i64 (i : Int)) (.int .i64 0) (.slice a5 len c5)
              have hT5 : ∀ k, Turn p m k → k = p ∨ k = m := fun _ e => e
              have la6 := (hla.kp k5 hT5).below bl6
              have h6 := h5.below bl6
              have ho6 := ho5.below bl6
              have K6 := (hK.trans (k5.mono (fun k _ e => .inr e))).then bl6
              have B6 : Below w.heap.size w (w5.alloc (.cells #[.int .i64 ((i : Int) + 1), .int .i64 (i : Int), .int .i64 0, .slice a5 len c5] 31)) := b1.trans (K6.below (fun k e => by rcases e with e | e | e <;> omega) b1.size)
              have cz6 := kp_cell (T := fun _ => False) (Kp.of_below bl6) (kp_cell k5 cz (fun e => by have := hla.off ⟨gb, gq, none⟩ rfl; rcases e with e | e; exact this.1 e; exact this.2 e)) (fun h => h)
              have cB6 : (w5.alloc (.cells #[.int .i64 ((i : Int) + 1), .int .i64 (i : Int), .int .i64 0, .slice a5 len c5] 31)).cell? ⟨bb, bo + i, none⟩ = some (.slice ta len tc) := by
                have hcw := hTc (by intro e; simp at e; rw [e] at hiT; simp at hiT)
                obtain ⟨b9, o9, e9, h9⟩ := hcw
                cases e9
                have h10 := h9 i (by simpa using hiT)
                rw [B6.cell (p := ⟨bb, bo + i, none⟩) (World.block_lt_of_cell? w _ h10), h10]
                simp [slT, ← htt.out, hlen.out]
              have hatB6 : At (w5.alloc (.cells #[.int .i64 ((i : Int) + 1), .int .i64 (i : Int), .int .i64 0, .slice a5 len c5] 31)) ta tl := (hTa (ta, tc, tl) (by rw [htt.out]; exact List.getElem_mem _)).below B6
              clear h5
              replace P6 := hid P6
              go_wp2_with fail
              obtain ⟨g5, hg5⟩ : ∃ g, g = w5.heap.size := ⟨_, rfl⟩
              rw [← hg5] at P6 ⊢
              generalize w5.alloc (.cells #[.int .i64 ((i : Int) + 1), .int .i64 (i : Int), .int .i64 0, .slice a5 len c5] 31) = w6 at *
              have q0 := P6.out.cell0
              have q1 := P6.out.cell1
              have q3 := P6.out.cell3
              replace hg5 := hid hg5
              have bd := drew_below w6
              have d0 := stay bd q0
              have d1 := stay bd q1
              have d3 := stay bd q3
              have dz := stay bd cz6
              have dB := stay bd cB6
              have hatd := hatB6.below bd
              have hod := (own_at ho6).below bd
              have la7 := la6.below bd
              have h7 := h6.below bd
              have K7 := K6.then bd
              have B7 := bnext B6 bd
              clear cz cB bl6 hpw hmw
              have hlen2 := hid hlen.out
              have hwr1 : IntKind.i64.wrap ((i : Int) + 1 - 1) = (i : Int) := by rw [IntKind.wrap_i64]; omega
              have hwr2 : IntKind.i64.wrap (i : Int) = (i : Int) := by rw [IntKind.wrap_i64]; omega
              go_region_held (fun w' : World => w'.cell? ⟨g5, 0, none⟩ = some (.int .i64 ((i : Int) + 1)) ∧ w'.cell? ⟨g5, 1, none⟩ = some (.int .i64 (i : Int)) ∧ w'.cell? ⟨g5, 3, none⟩ = some (.slice a5 len c5) ∧ w'.cell? ⟨gb, gq + k, none⟩ = some (.int .i64 ((i : Int) + 1)) ∧ w'.cell? ⟨bb, bo + i, none⟩ = some (.slice ta len tc)) (exact ⟨d0, d1, d3, dz, dB⟩)
                (first | (go_at_call 25; refine (same_any a5 ta len len c5 tc tl tl _ hlen2.out hlen2.out hod hatd rfl).mono ?_; rintro e w7 ⟨rfl, rfl⟩))
              have bd2 := drew_below w6.drew
              have la8 := la7.below bd2
              have h8 := h7.below bd2
              have K8 := K7.then bd2
              have hXl : ((nums L).take k).length = k := by rw [List.length_take]; unfold nums; rw [List.length_map]; omega
              have hYl : ((nums L).drop (k + 1)).length = n - (k + 1) := by simp [nums, hLl.out]
              have hrest := la8.rest (k := k + 1) (c := c) (by simp [nums, hLl.out]; exact hnc)
              obtain ⟨y, hy⟩ : ∃ y : Option Addr, (if c = k + 1 then some (⟨gb, gq, none⟩ : Addr) else some ⟨gb, gq + (k + 1), none⟩) = y := ⟨_, rfl⟩
              rw [hy] at hrest
              obtain ⟨a9, c9, w9, hrun, la9, hc9, b9⟩ := app_rest w6.drew.drew p m gb gq k (c - (k + 1)) (n - (k + 1)) y ((nums L).take k) ((nums L).drop (k + 1)) (la8.take k) hrest hXl hYl (by omega) h8.lt h8.own.lt
              obtain ⟨n1, hn1e⟩ : ∃ n1, n1 = k + (n - (k + 1)) := ⟨_, rfl⟩
              have hn1n : n1 + 1 = n := by omega
              rw [← hn1e] at hrun hc9
              rw [← hcut.out] at la9
              have h9 := h8.below b9
              have K9 := K8.then b9
              have hkc : k ≤ c := by omega
              have hk1c : k + 1 ≤ c := by omega
              replace hn1e := hid hn1e
              replace hXl := hid hXl
              replace hYl := hid hYl
              clear d0 d1 d3 dz dB q0 q1 q3 cz6 cB6
              have hw11 : IntKind.i64.wrap 1 = 1 := by rw [IntKind.wrap_i64]; omega
              have hn1i : (1 : Int) ≤ (n : Int) := by omega
              have hk1a : 0 ≤ (k : Int) + 1 := by omega
              have hk1b : (k : Int) + 1 ≤ (n : Int) := by omega
              have hwrk : IntKind.i64.wrap ((k : Int) + 1) = (k : Int) + 1 := by rw [IntKind.wrap_i64]; omega
              go_wp2_with fail
              go_region_law (simp only [Act.put, List.getElem_toArray, List.getElem_cons_zero, List.getElem_cons_succ, List.setIfInBounds_toArray, List.set_cons_zero, List.set_cons_succ]; (try simp only [hy]); refine step_bi rfl (.tmp 116) (.tmp 120) rfl rfl (.slice (some ⟨gb, gq, none⟩) k k) (.slice y (n - (k + 1)) (c - (k + 1))) (.slice a9 n1 c9) rfl rfl hrun ?_)
              go_wp2_with fail
              refine (list_any _ h9 (by have := hdl.out; have := hLl.out; omega) (by omega)).mono ?_
              rintro e w10 ⟨v10, Q10, rfl, hQ10, hP10, b10⟩
              have hL1 : (delP L ((i : Int) + 1)).length = n1 := by have := hdl.out; have := hLl.out; omega
              have hQl : Q10.length = n1 := by have := congrArg List.length hQ10; rw [List.length_map, List.length_map, hL1] at this; exact this
              have hrow := hP10.row
              rw [hQl] at hrow
              obtain ⟨ra, rc, rfl, _⟩ := owns_form hrow
              have la10 := la9.below b10
              have h10 := h9.below b10
              have K10 := K9.then b10
              have hWd := hW.del ((i : Int) + 1)
              generalize delP L ((i : Int) + 1) = L1 at *
              replace hrow := hid hrow
              replace hQ10 := hid hQ10
              replace hQl := hid hQl
              replace hL1 := hid hL1
              replace hP10 := hid hP10
              go_wp2_with fail
              go_loopw [16] (fun i wr => ∃ i3 : Nat, i3 ≤ n1 ∧ i = .int .i64 (i3 : Int) ∧ Below w10.heap.size w10 wr) (fun i _ => n1 - (intOf i).toNat)
              case atStart => exact ⟨0, Nat.zero_le _, rfl, Below.refl _ _⟩
              case round =>
                obtain ⟨i3, hi3, rfl, hb3⟩ := hrel
                by_cases hlt3 : i3 < n1
                · have hiL : i3 < L1.length := by rw [hL1.out]; exact hlt3
                  have hiQ : i3 < Q10.length := by rw [hQl.out]; exact hlt3
                  obtain ⟨xb, xo, hxe⟩ := la10.place (by intro e; unfold nums at e; rw [List.map_eq_nil_iff] at e; rw [e] at hiL; simp at hiL)
                  subst hxe
                  obtain ⟨rb, ro, hre, _⟩ := owns_cat hrow.out (by intro e; have := cells_len Q10; rw [e, hQl.out] at this; simp at this; omega)
                  subst hre
                  have hfl : Q10[i3].num = L1[i3].num := by
                    have := congrArg (fun l => l[i3]?) hQ10.out
                    have h2 : Q10[i3].flat = L1[i3].flat := by simpa [hiQ, hiL] using this
                    exact congrArg (fun x => x.1) h2
                  have x1 := stay hb3 (hP10.out.packet i3 hiQ).1
                  have x2 := stay hb3 (la10.cell i3 (by simpa [nums] using hiL))
                  have e2 : (nums L1)[i3]'(by simpa [nums] using hiL) = L1[i3].num := by simp [nums]
                  rw [e2] at x2
                  rw [hfl] at x1
                  generalize L1[i3].num = X at x1 x2
                  clear hfl e2
                  go_wp2_with fail
                  go_quiet (fail)
                  have bq := below_drewN (Below.refl wr.heap.size wr) nq
                  generalize wr.drewN nq = wq at bq ⊢
                  go_wp2_with fail
                  go_roundw
                  case rel => exact ⟨i3 + 1, by omega, by go_num, bnext hb3 bq⟩
                  case measure => simp [intOf]; omega
                · obtain rfl : i3 = n1 := by omega
                  go_wp2_with fail
                  go_roundw
                  case rel => exact ⟨i3, i2 + 1, a9, c9, by have := hni2.out; omega, rfl, by go_num, L1, h10.below hb3, hWd, hL1.out, hc9, la10.below hb3, K10.then hb3⟩
                  case measure => simp [sLen]; omega
            · have hd1 : decide ((0 : Int) < (on : Int)) = false := decide_eq_false (by omega)
              have hi2 : i2 ≤ 12 := by omega
              have hn12 : n ≤ 12 := by omega
              have hni2 : Hid (n + i2 = j) := hni
              clear hni
              have hkL : 0 < L.length := by omega
              obtain ⟨q, hq⟩ : ∃ q, q = L[0] := ⟨_, rfl⟩
              have hmem : q ∈ L := by rw [hq]; exact List.getElem_mem _
              obtain ⟨i, hiT, hfl⟩ := hW q hmem
              have hn1 : q.num = (i : Int) + 1 := congrArg (fun x => x.1) hfl
              have hf1 : q.fr = (i : Int) := congrArg (fun x => x.2.1) hfl
              have ht1 : q.to = 0 := congrArg (fun x => x.2.2.1) hfl
              have hbd : q.body = (T.getD i (none, 0, [])).2.2 := congrArg (fun x => x.2.2.2) hfl
              have cz : wr.cell? ⟨gb, gq, none⟩ = some (.int .i64 ((i : Int) + 1)) := by
                have h9 := hla.cell 0 (by simp [nums]; omega)
                have e9 : (nums L)[0]'(by simp [nums]; omega) = (i : Int) + 1 := by simp [nums, ← hq, hn1]
                rw [e9] at h9
                exact h9
              obtain ⟨bb, bo, hbe, hbc⟩ := hTc (by intro e; simp at e; rw [e] at hiT; simp at hiT)
              subst hbe
              have hci := hbc i (by simpa using hiT)
              obtain ⟨tt, htt⟩ : ∃ tt, tt = T[i] := ⟨_, rfl⟩
              have cB : wr.cell? ⟨bb, bo + i, none⟩ = some (.slice tt.1 tt.2.2.length tt.2.1) := by
                rw [hB.cell (p := ⟨bb, bo + i, none⟩) (World.block_lt_of_cell? w _ hci), hci, htt]
                simp [slT]
              have hatB := (hTa tt (by rw [htt]; exact List.getElem_mem _)).below hB
              have hbd2 : q.body = tt.2.2 := by
                rw [hbd, htt, List.getD_eq_getElem?_getD, List.getElem?_eq_getElem hiT]
                rfl
              obtain ⟨ta, tc, tl⟩ := tt
              simp only at cB hatB hbd2
              have hibn : i < bn := by rw [← hT.out]; exact hiT
              have hin : (i : Int) + 1 ≤ (j : Int) := by have := (hN.nums q hmem).2; omega
              have hfind : findP L ((i : Int) + 1) = some q := by rw [← hn1]; exact find_of_mem hN.rise hmem
              have hdel := deliver_yes ((i : Int) + 1) q _ hN (wf_i (by omega) (by omega)) hfind
              rw [hn1, hf1, ht1, hbd2] at hdel
              obtain ⟨len, hlen⟩ : ∃ x, tl.length = x := ⟨_, rfl⟩
              rw [hlen] at hdel cB
              have hcut := nums_cut L hN.rise 0 hkL q hq
              rw [hn1] at hcut
              have hdl := del_len_in hN.rise (show (i : Int) + 1 ∈ nums L by rw [← hn1]; exact List.mem_map.2 ⟨q, hmem, rfl⟩)
              have hpw3 := hN.lt
              have hmw3 := hN.own.lt
              clear hfl hbd hbc hci
              replace hlen := hid hlen
              replace hdel := hid hdel
              replace hq := hid hq
              replace hn1 := hid hn1
              replace hf1 := hid hf1
              replace ht1 := hid ht1
              replace hbd2 := hid hbd2
              replace htt := hid htt
              replace hfind := hid hfind
              replace hcut := hid hcut
              replace hdl := hid hdl
              replace hLl := hid hLl
              go_wp2_with fail
              refine hdel.out.mono ?_
              rintro e w5 ⟨a5, c5, rfl, ho5, h5, k5⟩
              have bl6 := below_lit w5 (.cells #[.int .i64 ((i : Int) + 1), .int .i64 (i : Int), .int .i64 0, .slice a5 len c5] 31)
              have P6 := PBlk.new w5 (.int .i64 ((i : Int) + 1)) (.int .i64 (i : Int)) (.int .i64 0) (.slice a5 len c5)
              have hT5 : ∀ k, Turn p m k → k = p ∨ k = m := fun _ e => e
              have la6 := (hla.kp k5 hT5).below bl6
              have h6 := h5.below bl6
              have ho6 := ho5.below bl6
              have K6 := (hK.trans (k5.mono (fun k _ e => .inr e))).then bl6
              have B6 : Below w.heap.size w (w5.alloc (.cells #[.int .i64 ((i : Int) + 1), .int .i64 (i : Int), .int .i64 0, .slice a5 len c5] 31)) := b1.trans (K6.below (fun k e => by rcases e with e | e | e <;> omega) b1.size)
              have cz6 := kp_cell (T := fun _ => False) (Kp.of_below bl6) (kp_cell k5 cz (fun e => by have := hla.off ⟨gb, gq, none⟩ rfl; rcases e with e | e; exact this.1 e; exact this.2 e)) (fun h => h)
              have cB6 : (w5.alloc (.cells #[.int .i64 ((i : Int) + 1), .int .i64 (i : Int), .int .i64 0, .slice a5 len c5] 31)).cell? ⟨bb, bo + i, none⟩ = some (.slice ta len tc) := by
                have hcw := hTc (by intro e; simp at e; rw [e] at hiT; simp at hiT)
                obtain ⟨b9, o9, e9, h9⟩ := hcw
                cases e9
                have h10 := h9 i (by simpa using hiT)
                rw [B6.cell (p := ⟨bb, bo + i, none⟩) (World.block_lt_of_cell? w _ h10), h10]
                simp [slT, ← htt.out, hlen.out]
              have hatB6 : At (w5.alloc (.cells #[.int .i64 ((i : Int) + 1), .int .i64 (i : Int), .int .i64 0, .slice a5 len c5] 31)) ta tl := (hTa (ta, tc, tl) (by rw [htt.out]; exact List.getElem_mem _)).below B6
              clear h5
              replace P6 := hid P6
              go_wp2_with fail
              obtain ⟨g5, hg5⟩ : ∃ g, g = w5.heap.size := ⟨_, rfl⟩
              rw [← hg5] at P6 ⊢
              generalize w5.alloc (.cells #[.int .i64 ((i : Int) + 1), .int .i64 (i : Int), .int .i64 0, .slice a5 len c5] 31) = w6 at *
              have q0 := P6.out.cell0
              have q1 := P6.out.cell1
              have q3 := P6.out.cell3
              replace hg5 := hid hg5
              have bd := drew_below w6
              have d0 := stay bd q0
              have d1 := stay bd q1
              have d3 := stay bd q3
              have dz := stay bd cz6
              have dB := stay bd cB6
              have hatd := hatB6.below bd
              have hod := (own_at ho6).below bd
              have la7 := la6.below bd
              have h7 := h6.below bd
              have K7 := K6.then bd
              have B7 := bnext B6 bd
              clear cz cB bl6 hpw hmw
              have hlen2 := hid hlen.out
              have hwr1 : IntKind.i64.wrap ((i : Int) + 1 - 1) = (i : Int) := by rw [IntKind.wrap_i64]; omega
              have hwr2 : IntKind.i64.wrap (i : Int) = (i : Int) := by rw [IntKind.wrap_i64]; omega
              go_region_held (fun w' : World => w'.cell? ⟨g5, 0, none⟩ = some (.int .i64 ((i : Int) + 1)) ∧ w'.cell? ⟨g5, 1, none⟩ = some (.int .i64 (i : Int)) ∧ w'.cell? ⟨g5, 3, none⟩ = some (.slice a5 len c5) ∧ w'.cell? ⟨gb, gq, none⟩ = some (.int .i64 ((i : Int) + 1)) ∧ w'.cell? ⟨bb, bo + i, none⟩ = some (.slice ta len tc)) (exact ⟨d0, d1, d3, dz, dB⟩)
                (first | (go_at_call 25; refine (same_any a5 ta len len c5 tc tl tl _ hlen2.out hlen2.out hod hatd rfl).mono ?_; rintro e w7 ⟨rfl, rfl⟩))
              have bd2 := drew_below w6.drew
              have la8 := la7.below bd2
              have h8 := h7.below bd2
              have K8 := K7.then bd2
              have hXl : ((nums L).take 0).length = 0 := by rw [List.length_take]; unfold nums; rw [List.length_map]; omega
              have hYl : ((nums L).drop (1)).length = n - (1) := by simp [nums, hLl.out]
              have hrest := la8.rest (k := 1) (c := c) (by simp [nums, hLl.out]; exact hnc)
              obtain ⟨y, hy⟩ : ∃ y : Option Addr, (if c = 1 then some (⟨gb, gq, none⟩ : Addr) else some ⟨gb, gq + (1), none⟩) = y := ⟨_, rfl⟩
              rw [hy] at hrest
              obtain ⟨a9, c9, w9, hrun, la9, hc9, b9⟩ := app_rest w6.drew.drew p m gb gq 0 (c - (1)) (n - (1)) y ((nums L).take 0) ((nums L).drop (1)) (la8.take 0) hrest hXl hYl (by omega) h8.lt h8.own.lt
              obtain ⟨n1, hn1e⟩ : ∃ n1, n1 = 0 + (n - (1)) := ⟨_, rfl⟩
              have hn1n : n1 + 1 = n := by omega
              rw [← hn1e] at hrun hc9
              rw [← hcut.out] at la9
              have h9 := h8.below b9
              have K9 := K8.then b9
              have hkc : 0 ≤ c := by omega
              have hk1c : 1 ≤ c := by omega
              replace hn1e := hid hn1e
              replace hXl := hid hXl
              replace hYl := hid hYl
              clear d0 d1 d3 dz dB q0 q1 q3 cz6 cB6
              have hw11 : IntKind.i64.wrap 1 = 1 := by rw [IntKind.wrap_i64]; omega
              have hn1i : (1 : Int) ≤ (n : Int) := by omega
              have hk1a : 0 ≤ (0 : Int) + 1 := by omega
              have hk1b : (0 : Int) + 1 ≤ (n : Int) := by omega
              have hwrk : IntKind.i64.wrap ((0 : Int) + 1) = (0 : Int) + 1 := by rw [IntKind.wrap_i64]; omega
              go_wp2_with fail
              go_region_law (simp only [Act.put, List.getElem_toArray, List.getElem_cons_zero, List.getElem_cons_succ, List.setIfInBounds_toArray, List.set_cons_zero, List.set_cons_succ]; (try simp only [hy]); refine step_bi rfl (.tmp 116) (.tmp 120) rfl rfl (.slice (some ⟨gb, gq, none⟩) 0 0) (.slice y (n - (1)) (c - (1))) (.slice a9 n1 c9) rfl rfl hrun ?_)
              go_wp2_with fail
              refine (list_any _ h9 (by have := hdl.out; have := hLl.out; omega) (by omega)).mono ?_
              rintro e w10 ⟨v10, Q10, rfl, hQ10, hP10, b10⟩
              have hL1 : (delP L ((i : Int) + 1)).length = n1 := by have := hdl.out; have := hLl.out; omega
              have hQl : Q10.length = n1 := by have := congrArg List.length hQ10; rw [List.length_map, List.length_map, hL1] at this; exact this
              have hrow := hP10.row
              rw [hQl] at hrow
              obtain ⟨ra, rc, rfl, _⟩ := owns_form hrow
              have la10 := la9.below b10
              have h10 := h9.below b10
              have K10 := K9.then b10
              have hWd := hW.del ((i : Int) + 1)
              generalize delP L ((i : Int) + 1) = L1 at *
              replace hrow := hid hrow
              replace hQ10 := hid hQ10
              replace hQl := hid hQl
              replace hL1 := hid hL1
              replace hP10 := hid hP10
              go_wp2_with fail
              go_loopw [16] (fun i wr => ∃ i3 : Nat, i3 ≤ n1 ∧ i = .int .i64 (i3 : Int) ∧ Below w10.heap.size w10 wr) (fun i _ => n1 - (intOf i).toNat)
              case atStart => exact ⟨0, Nat.zero_le _, rfl, Below.refl _ _⟩
              case round =>
                obtain ⟨i3, hi3, rfl, hb3⟩ := hrel
                by_cases hlt3 : i3 < n1
                · have hiL : i3 < L1.length := by rw [hL1.out]; exact hlt3
                  have hiQ : i3 < Q10.length := by rw [hQl.out]; exact hlt3
                  obtain ⟨xb, xo, hxe⟩ := la10.place (by intro e; unfold nums at e; rw [List.map_eq_nil_iff] at e; rw [e] at hiL; simp at hiL)
                  subst hxe
                  obtain ⟨rb, ro, hre, _⟩ := owns_cat hrow.out (by intro e; have := cells_len Q10; rw [e, hQl.out] at this; simp at this; omega)
                  subst hre
                  have hfl : Q10[i3].num = L1[i3].num := by
                    have := congrArg (fun l => l[i3]?) hQ10.out
                    have h2 : Q10[i3].flat = L1[i3].flat := by simpa [hiQ, hiL] using this
                    exact congrArg (fun x => x.1) h2
                  have x1 := stay hb3 (hP10.out.packet i3 hiQ).1
                  have x2 := stay hb3 (la10.cell i3 (by simpa [nums] using hiL))
                  have e2 : (nums L1)[i3]'(by simpa [nums] using hiL) = L1[i3].num := by simp [nums]
                  rw [e2] at x2
                  rw [hfl] at x1
                  generalize L1[i3].num = X at x1 x2
                  clear hfl e2
                  go_wp2_with fail
                  go_quiet (fail)
                  have bq := below_drewN (Below.refl wr.heap.size wr) nq
                  generalize wr.drewN nq = wq at bq ⊢
                  go_wp2_with fail
                  go_roundw
                  case rel => exact ⟨i3 + 1, by omega, by go_num, bnext hb3 bq⟩
                  case measure => simp [intOf]; omega
                · obtain rfl : i3 = n1 := by omega
                  go_wp2_with fail
                  go_roundw
                  case rel => exact ⟨i3, i2 + 1, a9, c9, by have := hni2.out; omega, rfl, by go_num, L1, h10.below hb3, hWd, hL1.out, hc9, la10.below hb3, K10.then hb3⟩
                  case measure => simp [sLen]; omega
          · obtain rfl : n = 0 := by omega
            go_wp2_with fail
            refine (awake_any _).mono ?_
            rintro e w3 ⟨rfl, b3⟩
            go_wp2
            go_ret
            exact ⟨rfl, bnext hB b3⟩

end Go.Proofs.Ytgjjgfppolmkoaa
