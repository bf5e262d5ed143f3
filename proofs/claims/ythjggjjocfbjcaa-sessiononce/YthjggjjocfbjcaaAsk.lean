/- Begin, Ask. -/
import Derived.Test.YthjggjjocfbjcaaAskr
namespace Go.Proofs.Ythjggjjocfbjcaa
open Go.RowKit

theorem righta_inv {id next acked : Int} {ws : List PK} (h : rightA (id, next, acked, ws) = true) : (1 ≤ id ∧ id ≤ MM) ∧ (1 ≤ next ∧ next ≤ MM) ∧ riseB 0 (next - 1) (ws.map (·.1)) = true ∧ acked = ackP next (ws.map (·.1)) ∧ next - 1 - acked ≤ 8 := by
  have h' : (((numP id && numP next) && riseB 0 (next - 1) (ws.map (·.1))) && ((acked == ackP next (ws.map (·.1))) && decide (next - 1 - acked ≤ 8))) = true := h
  unfold numP at h'
  simp only [Bool.and_eq_true, decide_eq_true_eq, beq_iff_eq] at h'
  obtain ⟨⟨⟨h1, h2⟩, h3⟩, h4, h5⟩ := h'
  exact ⟨h1, h2, h3, h4, h5⟩

theorem ack_bounds {next : Int} {l : List Int} (hn : 1 ≤ next ∧ next ≤ MM) (h : riseB 0 (next - 1) l = true) : 0 ≤ ackP next l ∧ ackP next l < next := by
  cases l with
  | nil => simp only [ackP]; omega
  | cons y r =>
    simp only [riseB, Bool.and_eq_true, decide_eq_true_eq] at h
    simp only [ackP]; omega

theorem rise_len : ∀ (l : List Int) (lo hi : Int), riseB lo hi l = true → (l.length : Int) ≤ max 0 (hi - lo)
  | [], lo, hi, _ => by simp; omega
  | y :: r, lo, hi, h => by
    simp only [riseB, Bool.and_eq_true, decide_eq_true_eq] at h
    have := rise_len r y hi h.2
    simp only [List.length_cons, Int.natCast_add]
    omega

theorem waits_len {id next acked : Int} {ws : List PK} (h : rightA (id, next, acked, ws) = true) : ws.length ≤ 8 := by
  obtain ⟨_, hn, hr, ha, h8⟩ := righta_inv h
  cases ws with
  | nil => simp
  | cons y r =>
    simp only [List.map_cons, ackP] at ha hr
    have h2 := hr
    simp only [riseB, Bool.and_eq_true, decide_eq_true_eq] at h2
    have := rise_len _ _ _ h2.2
    simp only [List.length_map] at this
    simp only [List.length_cons]
    omega

/-- An asker's value. -/
def askV (a : PA) (ad : Option Addr) (n c : Nat) : Value := .agg #[.int .i64 a.1, .int .i64 a.2.1, .int .i64 a.2.2.1, .slice ad n c]

theorem begin_any (id : Int) (w : World) :
    Calls Try.prog 11 #[.int .i64 id] w fun e w' => e = .returned (.tuple #[.agg #[.int .i64 (beginP id).1.1, .int .i64 (beginP id).1.2.1, .int .i64 (beginP id).1.2.2.1, .slice none 0 0], .int .i64 (beginP id).2]) ∧ Below w.heap.size w w' := by
  cases h1 : numP id with
  | false =>
    have e : beginP id = ((0, 0, 0, []), 2) := by unfold beginP; rw [h1]; rfl
    rw [e]
    have b1 := below_lit w (.cells #[.int .i64 0, .int .i64 0, .int .i64 0, .slice none 0 0] 41)
    have P1 := ABlk.new w (.int .i64 0) (.int .i64 0) (.int .i64 0) (.slice none 0 0)
    have r1 := hid (P1.set (.int .i64 0) (.int .i64 0) (.int .i64 0) (.slice none 0 0))
    replace P1 := hid P1
    replace h1 := hid h1
    replace e := hid e
    go_enter Try.func11, Try.ntmps11
    go_wp2_with fail
    refine (isnum_any id _).mono ?_
    rintro e w2 ⟨rfl, rfl⟩
    rw [h1.out]
    go_wp2
    (try simp only [Exit.inBlock, Exit.then])
    refine bodyPost_ret (results_a2 rfl _ _ w.heap.size _ _ _ _ rfl (ABlk.new w _ _ _ _)) rfl ?_
    exact ⟨rfl, b1⟩
  | true =>
    have e : beginP id = ((id, 1, 0, []), 0) := by unfold beginP; rw [h1]; rfl
    rw [e]
    have b1 := below_lit w (.cells #[.int .i64 id, .int .i64 1, .int .i64 0, .slice none 0 0] 41)
    replace h1 := hid h1
    replace e := hid e
    go_enter Try.func11, Try.ntmps11
    go_wp2_with fail
    refine (isnum_any id _).mono ?_
    rintro e w2 ⟨rfl, rfl⟩
    rw [h1.out]
    go_wp2
    (try simp only [Exit.inBlock, Exit.then])
    refine bodyPost_ret (results_a2 rfl _ _ w.heap.size _ _ _ _ rfl (ABlk.new w _ _ _ _)) rfl ?_
    exact ⟨rfl, b1⟩

/-- The answer of Ask lies in memory as the plain one says. -/
def AskPost (R : PA × Int × Int) (w : World) (e : Ending) (w' : World) : Prop :=
  ∃ a' c' ks', e = .returned (.tuple #[askV R.1 a' R.1.2.2.2.length c', .int .i64 R.2.1, .int .i64 R.2.2]) ∧ ks'.map KV.flat = R.1.2.2.2 ∧ KAt w' w.heap.size a' ks' ∧ Below w.heap.size w w'

set_option maxRecDepth 100000 in
set_option maxHeartbeats 2000000 in
theorem ask_any (id next acked : Int) (a : Option Addr) (n c lo : Nat) (ks : List KV) (ba : Option Addr) (bl bc : Nat) (body : List UInt8) (w : World) (hl : ks.length = n) (h : KAt w lo a ks) (hnn : n * 32 ≤ SMALL) (hin : -9223372036854775808 ≤ next ∧ next ≤ 9223372036854775807) (hbl : body.length = bl) (hbs : bl ≤ 140737488355328) (hat : At w ba body) :
    Calls Try.prog 12 #[.agg #[.int .i64 id, .int .i64 next, .int .i64 acked, .slice a n c], .slice ba bl bc] w (AskPost (askP (id, next, acked, ks.map KV.flat) body) w) := by
  unfold SMALL at hnn
  have b1 := below_lit w (.cells #[.int .i64 id, .int .i64 next, .int .i64 acked, .slice a n c] 41)
  have p1 := ABlk.new w (.int .i64 id) (.int .i64 next) (.int .i64 acked) (.slice a n c)
  have b2 := below_lit (w.alloc (.cells #[.int .i64 id, .int .i64 next, .int .i64 acked, .slice a n c] 41)) (.cells #[.int .i64 0, .int .i64 0, .int .i64 0, .slice none 0 0] 41)
  have p2 := ABlk.new (w.alloc (.cells #[.int .i64 id, .int .i64 next, .int .i64 acked, .slice a n c] 41)) (.int .i64 0) (.int .i64 0) (.int .i64 0) (.slice none 0 0)
  have es : (w.alloc (.cells #[.int .i64 id, .int .i64 next, .int .i64 acked, .slice a n c] 41)).heap.size = w.heap.size + 1 := by simp
  rw [es] at p2
  replace hl := hid hl
  replace p1 := hid (p1.below b2)
  replace p2 := hid p2
  replace b1 := bnext b1 b2
  clear b2
  have hK1 := h.below b1
  cases hra : rightA (id, next, acked, ks.map KV.flat) with
  | false =>
    have e : askP (id, next, acked, ks.map KV.flat) body = ((0, 0, 0, []), 0, 2) := by unfold askP; rw [hra]; rfl
    rw [e]
    replace e := hid e
    replace hra := hid hra
    replace hbl := hid hbl
    go_enter Try.func12, Try.ntmps12
    go_wp2_with fail
    refine (righta_any id next acked a n c lo ks _ hl.out hK1 (by omega) hin).mono ?_
    rintro e w2 ⟨rfl, hb2⟩
    rw [hra.out]
    have B2 := bnext b1 hb2
    have q1 := p1.out.below hb2
    have q2 := p2.out.below hb2
    have c0 := q1.cell0
    have c1 := q1.cell1
    have c2 := q1.cell2
    have c3 := q1.cell3
    have d0 := q2.cell0
    have d1 := q2.cell1
    have d2 := q2.cell2
    have d3 := q2.cell3
    have f0 := q2.free 0
    have f1 := q2.free 1
    have f2 := q2.free 2
    have f3 := q2.free 3
    have r2 := hid (q2.set (.int .i64 0) (.int .i64 0) (.int .i64 0) (.slice none 0 0))
    have hBf := hid (below_set4 B2 (w.heap.size + 1) (by omega) (.int .i64 0) (.int .i64 0) (.int .i64 0) (.slice none 0 0))
    replace q1 := hid q1
    replace q2 := hid q2
    replace hK1 := hid hK1
    go_wp2
    (try simp only [Exit.inBlock, Exit.then])
    refine bodyPost_ret (results_a3 rfl _ _ (w.heap.size + 1) _ _ _ _ rfl r2.out) rfl ?_
    exact ⟨none, 0, [], rfl, rfl, KAt.nil _ _, hBf.out⟩
  | true =>
    obtain ⟨_, hne1, hrise, hea, h8⟩ := righta_inv hra
    have hab := ack_bounds hne1 hrise
    rw [← hea] at hab
    unfold MM at hne1
    have hn8 : n ≤ 8 := by have := waits_len hra; rw [List.length_map] at this; rw [← hl.out]; exact this
    replace hea := hid hea
    replace hrise := hid hrise
    have hw1 : IntKind.i64.wrap (next - 1) = next - 1 := by rw [IntKind.wrap_i64]; omega
    have hw2 : IntKind.i64.wrap (next - 1 - acked) = next - 1 - acked := by rw [IntKind.wrap_i64]; omega
    replace h8 := hid h8
    by_cases hlong : 65536 < body.length
    · have e : askP (id, next, acked, ks.map KV.flat) body = ((0, 0, 0, []), 0, 3) := by unfold askP; rw [hra, if_neg (by simp), if_pos hlong]
      rw [e]
      have dl : decide ((65536 : Int) < (bl : Int)) = true := by rw [hbl] at hlong; simp; omega
      replace e := hid e
      replace hra := hid hra
      replace hbl := hid hbl
      replace hlong := hid hlong
      go_enter Try.func12, Try.ntmps12
      go_wp2_with fail
      refine (righta_any id next acked a n c lo ks _ hl.out hK1 (by omega) hin).mono ?_
      rintro e w2 ⟨rfl, hb2⟩
      rw [hra.out]
      have B2 := bnext b1 hb2
      have q1 := p1.out.below hb2
      have q2 := p2.out.below hb2
      have c0 := q1.cell0
      have c1 := q1.cell1
      have c2 := q1.cell2
      have c3 := q1.cell3
      have d0 := q2.cell0
      have d1 := q2.cell1
      have d2 := q2.cell2
      have d3 := q2.cell3
      have f0 := q2.free 0
      have f1 := q2.free 1
      have f2 := q2.free 2
      have f3 := q2.free 3
      have r2 := hid (q2.set (.int .i64 0) (.int .i64 0) (.int .i64 0) (.slice none 0 0))
      have hBf := hid (below_set4 B2 (w.heap.size + 1) (by omega) (.int .i64 0) (.int .i64 0) (.int .i64 0) (.slice none 0 0))
      replace q1 := hid q1
      replace q2 := hid q2
      replace hK1 := hid hK1
      go_wp2
      (try simp only [Exit.inBlock, Exit.then])
      refine bodyPost_ret (results_a3 rfl _ _ (w.heap.size + 1) _ _ _ _ rfl r2.out) rfl ?_
      exact ⟨none, 0, [], rfl, rfl, KAt.nil _ _, hBf.out⟩
    · have dl : decide ((65536 : Int) < (bl : Int)) = false := by rw [hbl] at hlong; simp; omega
      by_cases he8 : next - 1 - acked = 8
      · have e : askP (id, next, acked, ks.map KV.flat) body = ((0, 0, 0, []), 0, 7) := by unfold askP; rw [hra, if_neg (by simp), if_neg hlong, if_pos he8]
        rw [e]
        have d8 : (next - 1 - acked == 8) = true := by simp [he8]
        replace e := hid e
        replace hra := hid hra
        replace hbl := hid hbl
        replace hlong := hid hlong
        replace he8 := hid he8
        go_enter Try.func12, Try.ntmps12
        go_wp2_with fail
        refine (righta_any id next acked a n c lo ks _ hl.out hK1 (by omega) hin).mono ?_
        rintro e w2 ⟨rfl, hb2⟩
        rw [hra.out]
        have B2 := bnext b1 hb2
        have q1 := p1.out.below hb2
        have q2 := p2.out.below hb2
        have c0 := q1.cell0
        have c1 := q1.cell1
        have c2 := q1.cell2
        have c3 := q1.cell3
        have d0 := q2.cell0
        have d1 := q2.cell1
        have d2 := q2.cell2
        have d3 := q2.cell3
        have f0 := q2.free 0
        have f1 := q2.free 1
        have f2 := q2.free 2
        have f3 := q2.free 3
        have r2 := hid (q2.set (.int .i64 0) (.int .i64 0) (.int .i64 0) (.slice none 0 0))
        have hBf := hid (below_set4 B2 (w.heap.size + 1) (by omega) (.int .i64 0) (.int .i64 0) (.int .i64 0) (.slice none 0 0))
        replace q1 := hid q1
        replace q2 := hid q2
        replace hK1 := hid hK1
        go_wp2
        (try simp only [Exit.inBlock, Exit.then])
        refine bodyPost_ret (results_a3 rfl _ _ (w.heap.size + 1) _ _ _ _ rfl r2.out) rfl ?_
        exact ⟨none, 0, [], rfl, rfl, KAt.nil _ _, hBf.out⟩
      · have d8 : (next - 1 - acked == 8) = false := by simp [he8]
        by_cases hem : next = 4611686018427387904
        · have e : askP (id, next, acked, ks.map KV.flat) body = ((0, 0, 0, []), 0, 5) := by unfold askP; rw [hra, if_neg (by simp), if_neg hlong, if_neg he8, if_pos hem]
          rw [e]
          have dm : (next == 4611686018427387904) = true := by simp [hem]
          replace e := hid e
          replace hra := hid hra
          replace hbl := hid hbl
          replace hlong := hid hlong
          replace he8 := hid he8
          replace hem := hid hem
          go_enter Try.func12, Try.ntmps12
          go_wp2_with fail
          refine (righta_any id next acked a n c lo ks _ hl.out hK1 (by omega) hin).mono ?_
          rintro e w2 ⟨rfl, hb2⟩
          rw [hra.out]
          have B2 := bnext b1 hb2
          have q1 := p1.out.below hb2
          have q2 := p2.out.below hb2
          have c0 := q1.cell0
          have c1 := q1.cell1
          have c2 := q1.cell2
          have c3 := q1.cell3
          have d0 := q2.cell0
          have d1 := q2.cell1
          have d2 := q2.cell2
          have d3 := q2.cell3
          have f0 := q2.free 0
          have f1 := q2.free 1
          have f2 := q2.free 2
          have f3 := q2.free 3
          have r2 := hid (q2.set (.int .i64 0) (.int .i64 0) (.int .i64 0) (.slice none 0 0))
          have hBf := hid (below_set4 B2 (w.heap.size + 1) (by omega) (.int .i64 0) (.int .i64 0) (.int .i64 0) (.slice none 0 0))
          replace q1 := hid q1
          replace q2 := hid q2
          replace hK1 := hid hK1
          go_wp2
          (try simp only [Exit.inBlock, Exit.then])
          refine bodyPost_ret (results_a3 rfl _ _ (w.heap.size + 1) _ _ _ _ rfl r2.out) rfl ?_
          exact ⟨none, 0, [], rfl, rfl, KAt.nil _ _, hBf.out⟩
        · have e : askP (id, next, acked, ks.map KV.flat) body = ((id, next + 1, acked, ks.map KV.flat ++ [(next, body)]), next, 0) := by unfold askP; rw [hra, if_neg (by simp), if_neg hlong, if_neg he8, if_neg hem]
          rw [e]
          have dm : (next == 4611686018427387904) = false := by simp [hem]
          have hw3 : IntKind.i64.wrap (next + 1) = next + 1 := by rw [IntKind.wrap_i64]; omega
          obtain ⟨i0, hi0, hz0, hz1, hz2⟩ := info_parts info69z
          replace e := hid e
          replace hra := hid hra
          replace hbl := hid hbl
          replace hlong := hid hlong
          replace he8 := hid he8
          replace hem := hid hem
          go_enter Try.func12, Try.ntmps12
          go_wp2_with fail
          refine (righta_any id next acked a n c lo ks _ hl.out hK1 (by omega) hin).mono ?_
          rintro e w2 ⟨rfl, hb2⟩
          rw [hra.out]
          have B2 := bnext b1 hb2
          have q1 := p1.out.below hb2
          have q2 := p2.out.below hb2
          have c0 := q1.cell0
          have c1 := q1.cell1
          have c2 := q1.cell2
          have c3 := q1.cell3
          have d0 := q2.cell0
          have d1 := q2.cell1
          have d2 := q2.cell2
          have d3 := q2.cell3
          have f0 := q2.free 0
          have f1 := q2.free 1
          have f2 := q2.free 2
          have f3 := q2.free 3
          have hK2 := hK1.below hb2
          replace hK1 := hid hK1
          clear d0 d1 d2 d3 f0 f1 f2 f3
          go_wp2_with fail
          refine (copied_w a n c lo ks _ hl.out hK2 (by unfold SMALL; omega)).mono ?_
          rintro e w3 ⟨v3, Q, rfl, hQ, hO3, hb3⟩
          have B3 := bnext B2 hb3
          have hQl : Q.length = n := by have := congrArg List.length hQ; simp at this; rw [this]; exact hl.out
          replace hQ := hid hQ
          replace hK2 := hid hK2
          go_wp2_with fail
          refine (bclone_any ba bc bl body _ hbl.out hbs (hat.below B3)).mono ?_
          rintro e w4 ⟨a4, c4, rfl, ho4, hb4⟩
          have bl5 := below_lit w4 (.cells #[.int .i64 next, .slice a4 bl c4] 69)
          have B5 := bnext hb4 bl5
          have hO5 := hO3.row
          rw [hQl] at hO5
          replace hO5 := hid (owns_below hO5 B5)
          replace hQl := hid hQl
          have hcl := hid (cat_lit w4 69 [.int .i64 next, .slice a4 bl c4] _ rfl)
          have hbase : w2.heap.size ≤ (w4.alloc (.cells #[.int .i64 next, .slice a4 bl c4] 69)).heap.size := Nat.le_trans hb3.size B5.size
          replace hbase := hid hbase
          go_wp2_with (at_builtin; refine Hid.out ?_)
          refine hid ?_
          refine wpList_cat _ rfl (.tmp 32) (.tmp 37) 39 rfl w2.heap.size 69 i0 _ 2 32 Try.underlying39 hi0 hz0 hz1 hz2 rfl (by omega) v3 n (Q.flatMap KV.cells) rfl hO5.out (some ⟨w4.heap.size, 0, none⟩) 1 1 [.int .i64 next, .slice a4 bl c4] rfl rfl hcl.out (by simp [Value.oneCell']) (by unfold maxLen; omega) (by omega) hbase.out ?_
          intro v7 w7 hr7 hg7 hv7
          have hO7 : KOwn 69 w7 w2.heap.size v7 (Q ++ [⟨next, a4, c4, body⟩]) := by
            have hb' : Own (w4.alloc (.cells #[.int .i64 next, .slice a4 bl c4] 69)) w3.heap.size (.slice a4 body.length c4) body := by rw [hbl.out]; exact ho4.below bl5
            have hr' : w7.ownsRow w2.heap.size 69 2 v7 (Q.length + 1) (Q.flatMap KV.cells ++ KV.cells ⟨next, a4, c4, body⟩) := by
              rw [hQl.out]
              show w7.ownsRow w2.heap.size 69 2 v7 (n + 1) (Q.flatMap KV.cells ++ [.int .i64 next, .slice a4 body.length c4])
              rw [hbl.out]
              exact hr7
            exact KOwn.more (q := ⟨next, a4, c4, body⟩) (by decide) hO3 B5 hb' (by show body.length ≤ SMALL; rw [hbl.out]; unfold SMALL; exact hbs) hb3.size hr' hg7
          have hB7 : Below w2.heap.size w2 w7 := (bnext hb3 B5).trans ((Kp.grown hg7).below (fun k hk => (World.ownsRow.lt hO3.row k hk).1) hbase.out)
          obtain ⟨a7, c7, rfl, hc7⟩ := owns_form hr7
          have q1 := (q1).below hB7
          have q2 := (q2).below hB7
          have hl1 := q1.lt
          have c0 := q1.cell0
          have c1 := q1.cell1
          have c2 := q1.cell2
          have c3 := q1.cell3
          have f1 := q1.free 1
          have f3 := q1.free 3
          have d0 := q2.cell0
          have d1 := q2.cell1
          have d2 := q2.cell2
          have d3 := q2.cell3
          have g0 := q2.free 0
          have g1 := q2.free 1
          have g2 := q2.free 2
          have g3 := q2.free 3
          have r2 := hid (((q2.other w.heap.size 3 (.slice a7 (n + 1) c7) (by omega)).other w.heap.size 1 (.int .i64 (next + 1)) (by omega)).set (.int .i64 id) (.int .i64 (next + 1)) (.int .i64 acked) (.slice a7 (n + 1) c7))
          have hkf : Kp (fun k => k = w.heap.size ∨ k = w.heap.size + 1) w7 _ := ((((((Kp.refl (fun k => k = w.heap.size ∨ k = w.heap.size + 1) w7).setCell (p := ⟨w.heap.size, 3, none⟩) (.inl rfl) (.slice a7 (n + 1) c7)).setCell (p := ⟨w.heap.size, 1, none⟩) (.inl rfl) (.int .i64 (next + 1))).setCell (p := ⟨w.heap.size + 1, 0, none⟩) (.inr rfl) (.int .i64 id)).setCell (p := ⟨w.heap.size + 1, 1, none⟩) (.inr rfl) (.int .i64 (next + 1))).setCell (p := ⟨w.heap.size + 1, 2, none⟩) (.inr rfl) (.int .i64 acked)).setCell (p := ⟨w.heap.size + 1, 3, none⟩) (.inr rfl) (.slice a7 (n + 1) c7)
          have hB2s : w.heap.size + 2 ≤ w2.heap.size := by have := hb2.size; simp at this; omega
          have hKf := hid ((hO7.kat.kp hkf (fun k hk => by omega)).le B2.size)
          have hBf := hid ((bnext B2 hB7).trans (hkf.below (base := w.heap.size) (fun k hk => by omega) (bnext B2 hB7).size))
          replace hkf := hid hkf
          replace q1 := hid q1
          replace q2 := hid q2
          replace hO7 := hid hO7
          replace hr7 := hid hr7
          replace hO3 := hid hO3
          replace ho4 := hid ho4
          go_wp2
          (try simp only [Exit.inBlock, Exit.then])
          refine bodyPost_ret (results_a3 rfl _ _ (w.heap.size + 1) _ _ _ _ rfl r2.out) rfl ?_
          refine ⟨a7, c7, _, ?_, ?_, hKf.out, hBf.out⟩
          · have hln : (ks.map KV.flat ++ [(next, body)]).length = n + 1 := by simp [hl.out]
            unfold askV
            simp only [hln]
            rfl
          · rw [List.map_append, hQ.out]; rfl

end Go.Proofs.Ythjggjjocfbjcaa
