/- The document's askers: Acked, RightAsker, Begin. -/
import Derived.Test.YthjggjjocfbjcaaAsk
import Derived.WalkSmall
namespace Go.Proofs.Ythjggjjocfbjcaa
open Go.RowKit

set_option maxRecDepth 100000 in
set_option maxHeartbeats 1000000 in
theorem ackref_any (id next acked : Int) (a : Option Addr) (n c lo : Nat) (ks : List KV) (w : World) (hl : ks.length = n) (h : KAt w lo a ks) (hn1 : 1 ≤ next ∧ next ≤ MM) (hk1 : ∀ k ∈ ks, 0 < k.num ∧ k.num ≤ MM) :
    Calls Try.prog 58 #[.agg #[.int .i64 id, .int .i64 next, .int .i64 acked, .slice a n c]] w fun e w' => e = .returned (.int .i64 (ackP next (ks.map KV.num))) ∧ Below w.heap.size w w' := by
  unfold MM at hn1 hk1
  have b1 := below_lit w (.cells #[.int .i64 id, .int .i64 next, .int .i64 acked, .slice a n c] 41)
  cases ks with
  | nil =>
    simp only [List.length_nil] at hl
    subst hl
    have hw : IntKind.i64.wrap (next - 1) = next - 1 := by rw [IntKind.wrap_i64]; omega
    go_enter Try.func58, Try.ntmps58
    go_wp2
    go_ret
    exact ⟨rfl, b1⟩
  | cons k r =>
    obtain ⟨b, o, e⟩ := h.place (by simp)
    subst e
    have h1 := h.below b1
    have x0 := (h1.one 0 (by simp)).1
    simp only [List.getElem_cons_zero, Nat.zero_mul, Nat.add_zero] at x0
    have hk := hk1 k (by simp)
    have hpos : 0 < n := by rw [← hl]; simp
    have hpi : ((n : Int) == 0) = false := by simp; omega
    have hw : IntKind.i64.wrap (k.num - 1) = k.num - 1 := by rw [IntKind.wrap_i64]; omega
    generalize hX : k.num = X at x0 hk hw
    replace hX := hid hX
    replace hl := hid hl
    replace h1 := hid h1
    replace h := hid h
    go_enter Try.func58, Try.ntmps58
    go_wp2
    go_ret
    exact ⟨ret_int (by show X - 1 = k.num - 1; rw [hX.out]), b1⟩

theorem bref_any (id : Int) (w : World) :
    Calls Try.prog 25 #[.int .i64 id] w fun e w' => e = .returned (.tuple #[.agg #[.int .i64 (beginP id).1.1, .int .i64 (beginP id).1.2.1, .int .i64 (beginP id).1.2.2.1, .slice none 0 0], .int .i64 (beginP id).2]) ∧ Below w.heap.size w w' := by
  by_cases h1 : id < 1
  · have e : beginP id = ((0, 0, 0, []), 2) := by unfold beginP numP; rw [decide_eq_false (by omega : ¬ 1 ≤ id)]; rfl
    rw [e]
    have d1 : decide (id < 1) = true := decide_eq_true h1
    have b1 := below_lit w (.cells #[.int .i64 0, .int .i64 0, .int .i64 0, .slice none 0 0] 41)
    replace h1 := hid h1
    replace e := hid e
    go_enter Try.func25, Try.ntmps25
    go_wp2
    (try simp only [Exit.inBlock, Exit.then])
    refine bodyPost_ret (results_a2 rfl _ _ w.heap.size _ _ _ _ rfl (ABlk.new w _ _ _ _)) rfl ?_
    exact ⟨rfl, b1⟩
  · have d1 : decide (id < 1) = false := decide_eq_false h1
    by_cases h2 : 4611686018427387904 < id
    · have e : beginP id = ((0, 0, 0, []), 2) := by unfold beginP numP MM; rw [decide_eq_false (by omega : ¬ id ≤ 4611686018427387904)]; simp
      rw [e]
      have d2 : decide (4611686018427387904 < id) = true := decide_eq_true h2
      have b1 := below_lit w (.cells #[.int .i64 0, .int .i64 0, .int .i64 0, .slice none 0 0] 41)
      replace h1 := hid h1
      replace h2 := hid h2
      replace e := hid e
      go_enter Try.func25, Try.ntmps25
      go_wp2
      (try simp only [Exit.inBlock, Exit.then])
      refine bodyPost_ret (results_a2 rfl _ _ w.heap.size _ _ _ _ rfl (ABlk.new w _ _ _ _)) rfl ?_
      exact ⟨rfl, b1⟩
    · have e : beginP id = ((id, 1, 0, []), 0) := by unfold beginP numP MM; rw [decide_eq_true (by omega : 1 ≤ id), decide_eq_true (by omega : id ≤ 4611686018427387904)]; rfl
      rw [e]
      have d2 : decide (4611686018427387904 < id) = false := decide_eq_false h2
      have b1 := below_lit w (.cells #[.int .i64 id, .int .i64 1, .int .i64 0, .slice none 0 0] 41)
      replace h1 := hid h1
      replace h2 := hid h2
      replace e := hid e
      go_enter Try.func25, Try.ntmps25
      go_wp2
      (try simp only [Exit.inBlock, Exit.then])
      refine bodyPost_ret (results_a2 rfl _ _ w.heap.size _ _ _ _ rfl (ABlk.new w _ _ _ _)) rfl ?_
      exact ⟨rfl, b1⟩

theorem num_false {x : Int} (h : numP x = false) : x < 1 ∨ (¬ x < 1 ∧ 4611686018427387904 < x) := by
  unfold numP MM at h
  simp only [Bool.and_eq_false_iff, decide_eq_false_iff_not] at h
  omega

theorem num_true {x : Int} (h : numP x = true) : 1 ≤ x ∧ x ≤ 4611686018427387904 := by
  unfold numP MM at h
  simpa using h

set_option maxRecDepth 100000 in
set_option maxHeartbeats 4000000 in
theorem rref_any (id next acked : Int) (a : Option Addr) (n c lo : Nat) (ks : List KV) (w : World) (hl : ks.length = n) (h : KAt w lo a ks) (hnn : n ≤ 4000000000000000000) :
    Calls Try.prog 28 #[.agg #[.int .i64 id, .int .i64 next, .int .i64 acked, .slice a n c]] w fun e w' => e = .returned (.bool (rightA (id, next, acked, ks.map KV.flat))) ∧ Below w.heap.size w w' := by
  have b1 := below_lit w (.cells #[.int .i64 id, .int .i64 next, .int .i64 acked, .slice a n c] 41)
  have P1 := ABlk.new w (.int .i64 id) (.int .i64 next) (.int .i64 acked) (.slice a n c)
  have hR : rightA (id, next, acked, ks.map KV.flat) = (((numP id && numP next) && riseB 0 (next - 1) (ks.map KV.num)) && ((acked == ackP next (ks.map KV.num)) && decide (next - 1 - acked ≤ 8))) := by
    show (((numP id && numP next) && riseB 0 (next - 1) ((ks.map KV.flat).map (·.1))) && ((acked == ackP next ((ks.map KV.flat).map (·.1))) && decide (next - 1 - acked ≤ 8))) = _
    rw [amap]
  rw [hR]
  clear hR
  replace hl := hid hl
  cases h1 : numP id with
  | false =>
    show Calls Try.prog 28 _ w fun e w' => e = .returned (.bool false) ∧ _
    rcases num_false h1 with g1 | ⟨g1, g2⟩
    · have e1 : decide (id < 1) = true := decide_eq_true g1
      replace h1 := hid h1
      replace g1 := hid g1
      go_enter Try.func28, Try.ntmps28
      go_wp2
      go_ret
      exact ⟨rfl, b1⟩
    · have e1 : decide (id < 1) = false := decide_eq_false g1
      have e2 : decide (4611686018427387904 < id) = true := decide_eq_true g2
      replace h1 := hid h1
      replace g1 := hid g1
      replace g2 := hid g2
      go_enter Try.func28, Try.ntmps28
      go_wp2
      go_ret
      exact ⟨rfl, b1⟩
  | true =>
    have i1 := num_true h1
    have e1 : decide (id < 1) = false := decide_eq_false (by omega)
    have e2 : decide (4611686018427387904 < id) = false := decide_eq_false (by omega)
    cases h2 : numP next with
    | false =>
      show Calls Try.prog 28 _ w fun e w' => e = .returned (.bool false) ∧ _
      rcases num_false h2 with g1 | ⟨g1, g2⟩
      · have e3 : decide (next < 1) = true := decide_eq_true g1
        replace h1 := hid h1
        replace h2 := hid h2
        replace g1 := hid g1
        go_enter Try.func28, Try.ntmps28
        go_wp2
        go_ret
        exact ⟨rfl, b1⟩
      · have e3 : decide (next < 1) = false := decide_eq_false g1
        have e4 : decide (4611686018427387904 < next) = true := decide_eq_true g2
        replace h1 := hid h1
        replace h2 := hid h2
        replace g1 := hid g1
        replace g2 := hid g2
        go_enter Try.func28, Try.ntmps28
        go_wp2
        go_ret
        exact ⟨rfl, b1⟩
    | true =>
      have i2 := num_true h2
      have e3 : decide (next < 1) = false := decide_eq_false (by omega)
      have e4 : decide (4611686018427387904 < next) = false := decide_eq_false (by omega)
      have hw : IntKind.i64.wrap (next - 1) = next - 1 := by rw [IntKind.wrap_i64]; omega
      replace h1 := hid h1
      replace h2 := hid h2
      show Calls Try.prog 28 _ w fun e w' => e = .returned (.bool (riseB 0 (next - 1) (ks.map KV.num) && ((acked == ackP next (ks.map KV.num)) && decide (next - 1 - acked ≤ 8)))) ∧ _
      have hK1 := h.below b1
      go_enter Try.func28, Try.ntmps28
      go_wp2_with fail
      replace P1 := hid P1
      go_loopw [3, 4] (fun l i wr => ∃ j : Nat, ∃ low' : Int, j ≤ n ∧ l = .int .i64 low' ∧ i = .int .i64 (j : Int) ∧ Hid (riseB 0 (next - 1) (ks.map KV.num) = riseB low' (next - 1) ((ks.map KV.num).drop j)) ∧ Below (w.alloc (.cells #[.int .i64 id, .int .i64 next, .int .i64 acked, .slice a n c] 41)).heap.size (w.alloc (.cells #[.int .i64 id, .int .i64 next, .int .i64 acked, .slice a n c] 41)) wr) (fun _ i _ => n - (intOf i).toNat)
      case atStart => exact ⟨0, 0, Nat.zero_le _, rfl, rfl, hid (by simp), Below.refl _ _⟩
      case round =>
        obtain ⟨j, low', hj, rfl, rfl, hre, hb0⟩ := hrel
        have hb := bnext b1 hb0
        have P2 := P1.out.below hb0
        have c0 := P2.cell0
        have c1 := P2.cell1
        have c2 := P2.cell2
        have c3 := P2.cell3
        by_cases hlt : j < n
        · have hjL : j < ks.length := by rw [hl.out]; exact hlt
          obtain ⟨b, o, e⟩ := h.place (by intro e; rw [e] at hjL; simp at hjL)
          subst e
          have hr := hK1.below hb0
          obtain ⟨x0, x1⟩ := hr.one j hjL
          have hd := rise_drop (next - 1) (ks.map KV.num) j (by simpa using hjL) low'
          rw [List.getElem_map] at hd
          replace hre := hid (hre.out.trans hd)
          generalize ks[j].num = X at x0 hre
          clear hd x1
          replace hr := hid hr
          replace P2 := hid P2
          by_cases g1 : X ≤ low'
          · have d1 : decide (X ≤ low') = true := decide_eq_true g1
            have hfin := hid (hre.out.trans (show _ = false by rw [show decide (low' < X) = false by simp; omega]; rfl))
            replace hre := hid hre
            replace g1 := hid g1
            go_wp2_with fail
            go_quiet (fail)
            have hb2 := below_drewN hb nq
            generalize wr.drewN nq = wq at *
            go_wp2
            go_ret
            exact ⟨ret_bool (by rw [hfin.out]; rfl), hb2⟩
          · have d1 : decide (X ≤ low') = false := decide_eq_false g1
            by_cases g2 : next ≤ X
            · have d2 : decide (next ≤ X) = true := decide_eq_true g2
              have hfin := hid (hre.out.trans (show _ = false by rw [show decide (X ≤ next - 1) = false by simp; omega]; simp))
              replace hre := hid hre
              replace g1 := hid g1
              replace g2 := hid g2
              go_wp2_with fail
              go_quiet (fail)
              have hb2 := below_drewN hb nq
              generalize wr.drewN nq = wq at *
              go_wp2
              go_ret
              exact ⟨ret_bool (by rw [hfin.out]; rfl), hb2⟩
            · have d2 : decide (next ≤ X) = false := decide_eq_false g2
              have hfin := hid (hre.out.trans (show _ = riseB X (next - 1) ((ks.map KV.num).drop (j + 1)) by rw [show decide (low' < X) = true by simp; omega, show decide (X ≤ next - 1) = true by simp; omega]; rfl))
              replace hre := hid hre
              replace g1 := hid g1
              replace g2 := hid g2
              go_wp2_with fail
              go_quiet (fail)
              have hb2 := below_drewN hb0 nq
              have x0' : (wr.drewN nq).cell? ⟨b, o + j * 2, none⟩ = some (.int .i64 X) := x0
              have c3' : (wr.drewN nq).cell? ⟨w.heap.size, 3, none⟩ = some (.slice (some ⟨b, o, none⟩) n c) := c3
              clear x0 c0 c1 c2 c3 hb hb0
              generalize wr.drewN nq = wq at *
              go_wp2_with fail
              go_roundw
              case rel => exact ⟨j + 1, X, by omega, rfl, by go_num, hfin, hb2⟩
              case measure => simp [intOf]; omega
        · obtain rfl : j = n := by omega
          have h3 : riseB 0 (next - 1) (ks.map KV.num) = true := hre.out.trans (show _ = true by rw [List.drop_eq_nil_of_le (by simp [hl.out])]; rfl)
          have hks : ∀ k ∈ ks, 0 < k.num ∧ k.num ≤ MM := fun k hk => by
            have hk' : k.num ∈ ks.map KV.num := List.mem_map.2 ⟨k, hk, rfl⟩
            have key : ∀ (lo hi : Int) (l : List Int), riseB lo hi l = true → ∀ x ∈ l, lo < x ∧ x ≤ hi := by
              intro lo hi l
              induction l generalizing lo with
              | nil => intro _ x hx; simp at hx
              | cons y r ih =>
                intro hr x hx
                simp only [riseB, Bool.and_eq_true, decide_eq_true_eq] at hr
                rcases List.mem_cons.1 hx with rfl | hx
                · exact hr.1
                · have := ih y hr.2 x hx
                  omega
            have := key _ _ _ h3 _ hk'
            unfold MM
            omega
          have hackr := ack_bounds (l := ks.map KV.num) (show 1 ≤ next ∧ next ≤ MM from i2) h3
          obtain ⟨A, hA⟩ : ∃ A, A = ackP next (ks.map KV.num) := ⟨_, rfl⟩
          rw [← hA] at hackr
          have hanA := fun W hbW => ackref_any id next acked a j c lo ks W hl.out (hK1.below (bnext hb0 hbW)) i2 hks
          rw [← hA] at hanA
          replace hanA := hid hanA
          replace hks := hid hks
          replace hre := hid hre
          have P3 := hid P2
          clear P2
          have hfin : Hid ((riseB 0 (next - 1) (ks.map KV.num) && ((acked == ackP next (ks.map KV.num)) && decide (next - 1 - acked ≤ 8))) = ((acked == A) && decide (next - 1 - acked ≤ 8))) := hid (by rw [h3, ← hA]; rfl)
          replace h3 := hid h3
          replace hA := hid hA
          by_cases g1 : acked = A
          · have d1 : (acked == A) = true := by simp [g1]
            have hw2 : IntKind.i64.wrap (next - 1 - acked) = next - 1 - acked := by rw [IntKind.wrap_i64]; omega
            have bd := drew_below wr
            have P4 := P3.out.below bd
            have y0 := P4.cell0
            have y1 := P4.cell1
            have y2 := P4.cell2
            have y3 := P4.cell3
            have hans := hid (hanA.out wr.drew bd)
            replace P4 := hid P4
            subst g1
            go_wp2_with fail
            go_region_held (fun w' : World => w'.cell? ⟨w.heap.size, 0, none⟩ = some (.int .i64 id) ∧ w'.cell? ⟨w.heap.size, 1, none⟩ = some (.int .i64 next) ∧ w'.cell? ⟨w.heap.size, 2, none⟩ = some (.int .i64 acked) ∧ w'.cell? ⟨w.heap.size, 3, none⟩ = some (.slice a j c)) (first | exact ⟨k0, k1, k2, k3⟩ | exact ⟨y0, y1, y2, y3⟩)
              (first | (go_at_call 58; refine hans.out.mono ?_; rintro e w7 ⟨rfl, hb7⟩; have P7 := P4.out.below hb7; have k0 := P7.cell0; have k1 := P7.cell1; have k2 := P7.cell2; have k3 := P7.cell3; replace P7 := hid P7))
            go_wp2
            go_ret
            exact ⟨ret_bool (by rw [hfin.out, d1]; rfl), bnext hb (bnext bd hb7)⟩
          · have d1 : (acked == A) = false := by simp [g1]
            have hfin2 : Hid ((riseB 0 (next - 1) (ks.map KV.num) && ((acked == ackP next (ks.map KV.num)) && decide (next - 1 - acked ≤ 8))) = false) := hid (by rw [hfin.out, d1]; rfl)
            have hans := hanA
            replace g1 := hid g1
            go_wp2_with fail
            refine wp_region_drawn (Rel := fun w w' => Below w.heap.size w w') (Pr := fun q v _ => v = ([.pointer (some ⟨w.heap.size, 2, none⟩), .int .i64 acked, .agg #[.int .i64 id, .int .i64 next, .int .i64 acked, .slice a j c], .int .i64 A, .bool false, .bool false, undef, undef, undef, undef, undef, undef, undef, .bool false, .bool false]).getD q undef) (by kernel_rfl) (by kernel_rfl) (drew_below _) bel_tr (fun _ _ _ _ h _ => h) ?_ ?_
            · refine ⟨?_, ?_, ?_, ?_, ?_, ?_, ?_, ?_, ?_, ?_, ?_, ?_, ?_, ?_, ?_, trivial⟩
              · exact fun a w hR hd hk K hK => yes (want_n rfl) (wp_fld41_2 1 _ (get_keep (hk 1 (no_dst (by kernel_rfl))) rfl) (hK _ w rfl (Below.refl _ _)))
              · exact fun a w hR hd hk K hK => yes (want_n rfl) (wp_ld3 55 _ acked (hd 0 _ 55 rfl rfl rfl) (P3.out.below hR).cell2 (hK _ w rfl (Below.refl _ _)))
              · exact fun a w hR hd hk K hK => yes (want_n rfl) (wp_load_row _ _ rfl _ (get_keep (hk 1 (no_dst (by kernel_rfl))) rfl) 41 _ _ _ (P3.out.below hR) Try.underlying41 rfl info41 (hK _ w rfl (Below.refl _ _)))
              · exact fun a w hR hd hk K hK => yes (want_n rfl) (wp_callv 58 _ _ rfl _ Try.func58 rfl rfl _ (args1 (hd 2 _ 57 rfl rfl rfl)) (hans.out w hR) (by rintro e w' ⟨rfl, hb⟩; exact ⟨_, rfl, hK _ w' rfl hb⟩))
              · exact fun a w hR hd hk K hK => yes (want_n rfl) (wp_bin _ _ _ _ _ rfl _ _ _ (hd 1 _ 56 rfl rfl rfl) (hd 3 _ 58 rfl rfl rfl) rfl (eql_f d1 _) (hK _ w rfl (Below.refl _ _)))
              · exact fun a w hR hd hk K hK => yes (want_n rfl) (wp_mv _ rfl _ (hd 4 _ 59 rfl rfl rfl) (hK _ w rfl (Below.refl _ _)))
              · exact fun a w hR hd hk K hK => nope (want_f rfl rfl (hd 5 _ 60 rfl rfl rfl) (by decide)) (hK _ w rfl (Below.refl _ _))
              · exact fun a w hR hd hk K hK => nope (want_f rfl rfl (hd 5 _ 60 rfl rfl rfl) (by decide)) (hK _ w rfl (Below.refl _ _))
              · exact fun a w hR hd hk K hK => nope (want_f rfl rfl (hd 5 _ 60 rfl rfl rfl) (by decide)) (hK _ w rfl (Below.refl _ _))
              · exact fun a w hR hd hk K hK => nope (want_f rfl rfl (hd 5 _ 60 rfl rfl rfl) (by decide)) (hK _ w rfl (Below.refl _ _))
              · exact fun a w hR hd hk K hK => nope (want_f rfl rfl (hd 5 _ 60 rfl rfl rfl) (by decide)) (hK _ w rfl (Below.refl _ _))
              · exact fun a w hR hd hk K hK => nope (want_f rfl rfl (hd 5 _ 60 rfl rfl rfl) (by decide)) (hK _ w rfl (Below.refl _ _))
              · exact fun a w hR hd hk K hK => nope (want_f rfl rfl (hd 5 _ 60 rfl rfl rfl) (by decide)) (hK _ w rfl (Below.refl _ _))
              · exact fun a w hR hd hk K hK => yes (want_n rfl) (wp_pick _ _ _ rfl false _ (hd 5 _ 60 rfl rfl rfl) rfl (hK _ w rfl (Below.refl _ _)))
              · exact fun a w hR hd hk K hK => yes (want_n rfl) (wp_as _ rfl _ (hd 13 _ 68 rfl rfl rfl) (hK _ w rfl (Below.refl _ _)))
            · intro a w12 hdf hsz hkp hval hRw
              obtain ⟨f, hf⟩ : ∃ f, f = fun d => a.tmps.getD d undef := ⟨_, rfl⟩
              have h2' : f 2 = .bool false := by rw [hf]; exact hval 14 _ 2 rfl rfl
              have hfa := act_filled hdf hsz hkp
              rw [← hf] at hfa
              rw [hfa]
              clear hdf hsz hkp hval hfa hf
              clear a
              simp only [fillAll, List.set_cons_zero, List.set_cons_succ, h2']
              go_wp2
              go_ret
              exact ⟨ret_bool hfin2.out.symm, bnext hb hRw⟩

end Go.Proofs.Ythjggjjocfbjcaa
