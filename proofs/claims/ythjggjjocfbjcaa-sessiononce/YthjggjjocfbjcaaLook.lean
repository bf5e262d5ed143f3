/- Look. -/
import Derived.Test.YthjggjjocfbjcaaUpd
namespace Go.Proofs.Ythjggjjocfbjcaa
open Go.RowKit

theorem results_tmp4 {fn : Func} {t u v x : Tmp} (h : fn.results = #[.tmp t, .tmp u, .tmp v, .tmp x]) (tmps : Array Value) (P : Program) (w : World) :
    (results fn tmps).run P w = .ok (.tuple #[tmps.getD t undef, tmps.getD u undef, tmps.getD v undef, tmps.getD x undef]) w := by
  simp [results, h]

/-- The answer of Look lies in memory as the plain one R says. -/
def LookPost (R : List PC × Int × List UInt8 × Int) (w : World) (e : Ending) (w' : World) : Prop :=
  ∃ a' c' L' ra rc, e = .returned (.tuple #[.slice a' R.1.length c', .int .u8 R.2.1, .slice ra R.2.2.1.length rc, .int .i64 R.2.2.2]) ∧ L'.map CV.flat = R.1 ∧ LAt w' w.heap.size a' L' ∧ Own w' w.heap.size (.slice ra R.2.2.1.length rc) R.2.2.1 ∧ Below w.heap.size w w'

theorem look_none (n : Int) (w w' : World) (hb : Below w.heap.size w w') : LookPost ([], 0, [], n) w (.returned (.tuple #[.slice none 0 0, .int .u8 0, .slice none 0 0, .int .i64 n])) w' :=
  ⟨none, 0, [], none, 0, rfl, rfl, LAt.nil _ _, Own.nil _ _, hb⟩

set_option maxRecDepth 100000 in
set_option maxHeartbeats 1000000 in
theorem look_bad (a : Option Addr) (n c lo : Nat) (L : List CV) (cl r ak : Int) (w : World) (hL : L.length = n) (h : LAt w lo a L) (hn : n ≤ 9000000000000000000) (hbad : lookBad (L.map CV.flat) cl r ak = true) :
    Calls Try.prog 8 #[.slice a n c, .int .i64 cl, .int .i64 r, .int .i64 ak] w (LookPost ([], 0, [], 2) w) := by
  replace hL := hid hL
  unfold lookBad at hbad
  cases hr : rightP (L.map CV.flat) with
  | false =>
    replace hbad := hid hbad
    replace hr := hid hr
    go_enter Try.func8, Try.ntmps8
    go_wp2_with fail
    refine (right_any a n c lo L _ hL.out h hn).mono ?_
    rintro e w2 ⟨rfl, hb2⟩
    rw [hr.out]
    go_wp2
    (try simp only [Exit.inBlock, Exit.then])
    refine bodyPost_ret (results_tmp4 rfl _ _ _) rfl ?_
    exact look_none 2 w w2 hb2
  | true =>
    cases h1 : numP cl with
    | false =>
      replace hbad := hid hbad
      replace hr := hid hr
      replace h1 := hid h1
      go_enter Try.func8, Try.ntmps8
      go_wp2_with fail
      refine (right_any a n c lo L _ hL.out h hn).mono ?_
      rintro e w2 ⟨rfl, hb2⟩
      rw [hr.out]
      go_wp2_with fail
      refine (isnum_any cl _).mono ?_
      rintro e w3 ⟨rfl, rfl⟩
      rw [h1.out]
      go_wp2
      (try simp only [Exit.inBlock, Exit.then])
      refine bodyPost_ret (results_tmp4 rfl _ _ _) rfl ?_
      exact look_none 2 w w3 hb2
    | true =>
      cases h2 : numP r with
      | false =>
        replace hbad := hid hbad
        replace hr := hid hr
        replace h1 := hid h1
        replace h2 := hid h2
        go_enter Try.func8, Try.ntmps8
        go_wp2_with fail
        refine (right_any a n c lo L _ hL.out h hn).mono ?_
        rintro e w2 ⟨rfl, hb2⟩
        rw [hr.out]
        go_wp2_with fail
        refine (isnum_any cl _).mono ?_
        rintro e w3 ⟨rfl, rfl⟩
        rw [h1.out]
        go_wp2_with fail
        refine (isnum_any r _).mono ?_
        rintro e w4 ⟨rfl, rfl⟩
        rw [h2.out]
        go_wp2
        (try simp only [Exit.inBlock, Exit.then])
        refine bodyPost_ret (results_tmp4 rfl _ _ _) rfl ?_
        exact look_none 2 w w4 hb2
      | true =>
        rw [hr, h1, h2] at hbad
        replace hr := hid hr
        replace h1 := hid h1
        replace h2 := hid h2
        by_cases h3 : ak < 0
        · have d3 : decide (ak < 0) = true := by simpa using h3
          replace hbad := hid hbad
          replace h3 := hid h3
          go_enter Try.func8, Try.ntmps8
          go_wp2_with fail
          refine (right_any a n c lo L _ hL.out h hn).mono ?_
          rintro e w2 ⟨rfl, hb2⟩
          rw [hr.out]
          go_wp2_with fail
          refine (isnum_any cl _).mono ?_
          rintro e w3 ⟨rfl, rfl⟩
          rw [h1.out]
          go_wp2_with fail
          refine (isnum_any r _).mono ?_
          rintro e w4 ⟨rfl, rfl⟩
          rw [h2.out]
          go_wp2
          (try simp only [Exit.inBlock, Exit.then])
          refine bodyPost_ret (results_tmp4 rfl _ _ _) rfl ?_
          exact look_none 2 w w4 hb2
        · have d3 : decide (ak < 0) = false := by simpa using h3
          have d4 : decide (r ≤ ak) = true := by simpa [d3] using hbad
          replace hbad := hid hbad
          replace h3 := hid h3
          go_enter Try.func8, Try.ntmps8
          go_wp2_with fail
          refine (right_any a n c lo L _ hL.out h hn).mono ?_
          rintro e w2 ⟨rfl, hb2⟩
          rw [hr.out]
          go_wp2_with fail
          refine (isnum_any cl _).mono ?_
          rintro e w3 ⟨rfl, rfl⟩
          rw [h1.out]
          go_wp2_with fail
          refine (isnum_any r _).mono ?_
          rintro e w4 ⟨rfl, rfl⟩
          rw [h2.out]
          go_wp2
          (try simp only [Exit.inBlock, Exit.then])
          refine bodyPost_ret (results_tmp4 rfl _ _ _) rfl ?_
          exact look_none 2 w w4 hb2

theorem right_len {l : List PC} (h : rightP l = true) : l.length ≤ 16 := by
  unfold rightP at h
  simp only [Bool.and_eq_true, decide_eq_true_eq] at h
  exact h.1.1

theorem right_kept {L : List CV} (h : rightP (L.map CV.flat) = true) : ∀ x ∈ L, x.ks.length ≤ 8 := by
  unfold rightP at h
  simp only [Bool.and_eq_true] at h
  intro x hx
  have h1 := List.all_eq_true.1 h.2 x.flat (List.mem_map.2 ⟨x, hx, rfl⟩)
  unfold okC at h1
  simp only [Bool.and_eq_true, decide_eq_true_eq] at h1
  have h2 : (x.ks.map KV.flat).length ≤ 8 := h1.1.2
  simpa using h2

set_option maxRecDepth 100000 in
set_option maxHeartbeats 1000000 in
theorem look_full (a : Option Addr) (n c lo : Nat) (L : List CV) (cl r ak : Int) (w : World) (hL : L.length = n) (h : LAt w lo a L) (hgood : lookBad (L.map CV.flat) cl r ak = false) (hk : (placeP cl (L.map CV.id)).2 = false) (h16 : n = 16) :
    Calls Try.prog 8 #[.slice a n c, .int .i64 cl, .int .i64 r, .int .i64 ak] w (LookPost ([], 0, [], 5) w) := by
  have hr : rightP (L.map CV.flat) = true := by unfold lookBad at hgood; revert hgood; cases rightP (L.map CV.flat) <;> simp
  have h1 : numP cl = true := by unfold lookBad at hgood; revert hgood; cases numP cl <;> simp
  have h2 : numP r = true := by unfold lookBad at hgood; revert hgood; cases numP r <;> simp
  have d3 : decide (ak < 0) = false := by unfold lookBad at hgood; revert hgood; cases decide (ak < 0) <;> simp
  have d4 : decide (r ≤ ak) = false := by unfold lookBad at hgood; revert hgood; cases decide (r ≤ ak) <;> simp
  have hn16 := right_len hr
  rw [List.length_map, hL] at hn16
  have hn : n ≤ 9000000000000000000 := by omega
  replace hL := hid hL
  replace hgood := hid hgood
  obtain ⟨i, hi⟩ : ∃ i, i = (placeP cl (L.map CV.id)).1 := ⟨_, rfl⟩
  have hpp : placeP cl (L.map CV.id) = (i, false) := by rw [hi, ← hk]
  subst h16
  replace hr := hid hr
  replace h1 := hid h1
  replace h2 := hid h2
  replace hpp := hid hpp
  replace hi := hid hi
  replace hk := hid hk
  go_enter Try.func8, Try.ntmps8
  go_wp2_with fail
  refine (right_any a 16 c lo L _ hL.out h hn).mono ?_
  rintro e w2 ⟨rfl, hb2⟩
  rw [hr.out]
  go_wp2_with fail
  refine (isnum_any cl _).mono ?_
  rintro e w3 ⟨rfl, rfl⟩
  rw [h1.out]
  go_wp2_with fail
  refine (isnum_any r _).mono ?_
  rintro e w4 ⟨rfl, rfl⟩
  rw [h2.out]
  have hB2 := h.below hb2
  go_wp2_with fail
  refine (place_c a 16 c lo cl L _ hL.out hB2 (by omega)).mono ?_
  rintro e w5 ⟨rfl, hb5⟩
  rw [hpp.out]
  have B5 := bnext hb2 hb5
  go_wp2
  (try simp only [Exit.inBlock, Exit.then])
  refine bodyPost_ret (results_tmp4 rfl _ _ _) rfl ?_
  exact look_none 5 w w5 B5

theorem cset (L : List CV) (i : Nat) (x : CV) : (L.set i x).map CV.flat = (L.map CV.flat).set i x.flat := List.map_set

theorem settle_flat (x : CV) (M ak : Int) (a' : Option Addr) (c' : Nat) (hM : M = max x.fl ak) : CV.flat ⟨x.id, M, a', c', x.ks.filter fun k => !decide (k.num ≤ M)⟩ = settleP x.flat ak := by
  subst hM
  show (x.id, max x.fl ak, (x.ks.filter fun k => !decide (k.num ≤ max x.fl ak)).map KV.flat) = (x.id, max x.fl ak, (x.ks.map KV.flat).filter fun k => !decide (k.1 ≤ max x.fl ak))
  rw [List.filter_map]
  rfl

set_option maxRecDepth 100000 in
set_option maxHeartbeats 2000000 in
theorem look_known (a : Option Addr) (n c lo : Nat) (L : List CV) (cl r ak : Int) (w : World) (hL : L.length = n) (h : LAt w lo a L) (hgood : lookBad (L.map CV.flat) cl r ak = false) (hk : (placeP cl (L.map CV.id)).2 = true) :
    Calls Try.prog 8 #[.slice a n c, .int .i64 cl, .int .i64 r, .int .i64 ak] w (LookPost (lookP (L.map CV.flat) cl r ak) w) := by
  have hr : rightP (L.map CV.flat) = true := by unfold lookBad at hgood; revert hgood; cases rightP (L.map CV.flat) <;> simp
  have h1 : numP cl = true := by unfold lookBad at hgood; revert hgood; cases numP cl <;> simp
  have h2 : numP r = true := by unfold lookBad at hgood; revert hgood; cases numP r <;> simp
  have d3 : decide (ak < 0) = false := by unfold lookBad at hgood; revert hgood; cases decide (ak < 0) <;> simp
  have d4 : decide (r ≤ ak) = false := by unfold lookBad at hgood; revert hgood; cases decide (r ≤ ak) <;> simp
  have hn16 := right_len hr
  rw [List.length_map, hL] at hn16
  have hn : n ≤ 9000000000000000000 := by omega
  replace hL := hid hL
  replace hgood := hid hgood
  have h8 := right_kept hr
  obtain ⟨i, hi⟩ : ∃ i, i = (placeP cl (L.map CV.id)).1 := ⟨_, rfl⟩
  have hil := place_lt cl _ hk
  rw [List.length_map, ← hi] at hil
  have hin : i < n := by rw [← hL.out]; exact hil
  have hpp : placeP cl (L.map CV.id) = (i, true) := by rw [hi, ← hk]
  replace hr := hid hr
  replace h1 := hid h1
  replace h2 := hid h2
  replace hpp := hid hpp
  replace hi := hid hi
  replace hk := hid hk
  replace h8 := hid h8
  go_enter Try.func8, Try.ntmps8
  go_wp2_with fail
  refine (right_any a n c lo L _ hL.out h hn).mono ?_
  rintro e w2 ⟨rfl, hb2⟩
  rw [hr.out]
  go_wp2_with fail
  refine (isnum_any cl _).mono ?_
  rintro e w3 ⟨rfl, rfl⟩
  rw [h1.out]
  go_wp2_with fail
  refine (isnum_any r _).mono ?_
  rintro e w4 ⟨rfl, rfl⟩
  rw [h2.out]
  have hB2 := h.below hb2
  go_wp2_with fail
  refine (place_c a n c lo cl L _ hL.out hB2 (by omega)).mono ?_
  rintro e w5 ⟨rfl, hb5⟩
  rw [hpp.out]
  have B5 := bnext hb2 hb5
  go_wp2_with fail
  refine (copied_c a n c lo L _ hL.out (hB2.below hb5) (by omega) h8.out).mono ?_
  rintro e w6 ⟨v6, Q, rfl, hQ, hO6, hb6⟩
  have B6 := bnext B5 hb6
  have hQl : Q.length = n := by have := congrArg List.length hQ; simp at this; rw [this]; exact hL.out
  obtain ⟨Q7, hQ7⟩ : ∃ Q7, Q7 = Q := ⟨_, rfl⟩
  rw [← hQ7] at hQ hO6 hQl
  obtain ⟨a7, c7, rfl, hc7⟩ := owns_form hO6.row
  rw [hQl] at hO6 hc7 ⊢
  have hO7 := hO6
  have h87 : Hid (∀ x ∈ Q7, x.ks.length ≤ 8) := hid fun x hx => by
    obtain ⟨j, hj, rfl⟩ := List.getElem_of_mem hx
    have h1 := congrArg (fun l => (l[j]?).map (fun y : PC => y.2.2.length)) hQ
    have hjL : j < L.length := by rw [hL.out, ← hQl]; exact hj
    simp only [List.getElem?_map, List.getElem?_eq_getElem hj, List.getElem?_eq_getElem hjL, Option.map_some, Option.some.injEq] at h1
    have h2 := h8.out _ (List.getElem_mem hjL)
    simp only [CV.flat, List.length_map] at h1
    omega
  obtain ⟨w7, hw7⟩ : ∃ w7, w7 = w6 := ⟨_, rfl⟩
  rw [← hw7] at hO7 B6 ⊢
  have B7 := B6
  replace hQ := hid hQ
  replace hO6 := hid hO6
  clear hw7 hQ7
  have hiQ0 : i < Q7.length := by omega
  obtain ⟨g, rfl, -, hgc, hbg, hgl, hfz, x0, x1, x2⟩ := hO7.one i hiQ0
  have hKO := hO7.own _ (List.getElem_mem hiQ0)
  have h8i : Q7[i].ks.length ≤ 8 := h87.out _ (List.getElem_mem hiQ0)
  obtain ⟨q, hq⟩ : ∃ q, q = Q7[i]'hiQ0 := ⟨_, rfl⟩
  have hupd := fun w8 S hS hk x hx hxa => hid (COwn.upd (w2 := w8) hO7 hiQ0 S hS hk x hx hxa)
  rw [← hq] at x0 x1 x2 hKO h8i hupd
  have hfl : Hid (q.flat = (Q7.map CV.flat).getD i (0, 0, [])) := hid (by rw [hq]; simp [List.getD, hiQ0])
  replace hq := hid hq
  obtain ⟨qid, qfl, qa, qc, qks⟩ := q
  simp only at x0 x1 x2 hKO h8i hupd
  obtain ⟨m, hm⟩ : ∃ m, qks.length = m := ⟨_, rfl⟩
  rw [hm] at x2 hKO h8i hupd
  replace hm := hid hm
  have y0 := hfz (i * 3)
  have y1 := hfz (i * 3 + 1)
  have y2 := hfz (i * 3 + 2)
  replace hfz := hid hfz
  replace hupd := hid hupd
  replace hKO := hid hKO
  replace hO7 := hid hO7
  replace hQl := hid hQl
  go_wp2_with fail
  refine (settled_any qid qfl ak qa m qc _ qks _ hm.out h8i hKO.out).mono ?_
  rintro e w8 ⟨a8, c8, rfl, hO8, hk8, hv8⟩
  obtain ⟨M, hM⟩ : ∃ M, M = max qfl ak := ⟨_, rfl⟩
  rw [← hM] at hO8 ⊢
  obtain ⟨F, hF⟩ : ∃ F, F = (qks.filter fun k => !decide (k.num ≤ M)) := ⟨_, rfl⟩
  rw [← hF] at hO8 ⊢
  have hO9 := (hupd.out w8 _ (fun k hk => .inl hk) hk8 ⟨qid, M, a8, c8, F⟩ hO8 (fun y hy => .inl (hv8 y hy))).out
  have hg8 : ∀ o, w8.cell? ⟨g, o, none⟩ = w7.cell? ⟨g, o, none⟩ := fun o => World.cell?_of_block (w := w7) (a := ⟨g, o, none⟩) (hk8.block g hgl (fun e => rows_off hKO.out.row hO7.out.row (by decide) g e rfl))
  have hf8 : ∀ o, w8.frozen? ⟨g, o, none⟩ = false := fun o => by
    have : w8.frozen? ⟨g, o, none⟩ = w7.frozen? ⟨g, o, none⟩ := by unfold World.frozen?; rw [hk8.block g hgl (fun e => rows_off hKO.out.row hO7.out.row (by decide) g e rfl)]
    rw [this]; exact hfz.out o
  have z0 := (hg8 (i * 3)).trans x0
  have z1 := (hg8 (i * 3 + 1)).trans x1
  have z2 := (hg8 (i * 3 + 2)).trans x2
  have f0 := hf8 (i * 3)
  have f1 := hf8 (i * 3 + 1)
  have f2 := hf8 (i * 3 + 2)
  obtain ⟨fl, hfln⟩ : ∃ x, F.length = x := ⟨_, rfl⟩
  rw [hfln] at hO8 hO9 ⊢
  simp only at hO9
  have hkS : Kp (fun k => w.heap.size ≤ k) w _ := (((Kp.next (Kp.of_below (S := fun k => w.heap.size ≤ k) B7) hk8 (fun k _ e => Nat.le_trans B5.size (World.ownsRow.lt hKO.out.row k e).1)).setCell (p := ⟨g, i * 3, none⟩) (Nat.le_trans B5.size hbg) (.int .i64 qid)).setCell (p := ⟨g, i * 3 + 1, none⟩) (Nat.le_trans B5.size hbg) (.int .i64 M)).setCell (p := ⟨g, i * 3 + 2, none⟩) (Nat.le_trans B5.size hbg) (.slice a8 fl c8)
  have hB9 := hkS.below (base := w.heap.size) (fun k h => h) (Nat.le_refl _)
  replace hkS := hid hkS
  obtain ⟨w9, hw9⟩ : ∃ w9, w9 = ((w8.setCell ⟨g, i * 3, none⟩ (.int .i64 qid)).setCell ⟨g, i * 3 + 1, none⟩ (.int .i64 M)).setCell ⟨g, i * 3 + 2, none⟩ (.slice a8 fl c8) := ⟨_, rfl⟩
  rw [← hw9] at hO9 hB9
  obtain ⟨g', hgg, -, -, -, -, -, v0, v1, v2⟩ := hO9.one i (by rw [List.length_set]; exact hiQ0)
  cases hgg
  simp only [List.getElem_set_self] at v0 v1 v2
  have hK9 := (hO9.own ⟨qid, M, a8, c8, F⟩ (by rw [List.mem_iff_getElem]; exact ⟨i, by rw [List.length_set]; exact hiQ0, by simp⟩)).kat
  simp only at hK9 v0 v1 v2
  rw [hfln] at v2
  have hfl8 : fl ≤ 1000000 := by
    have : F.length ≤ qks.length := by rw [hF]; exact List.length_filter_le _ _
    rw [hfln, hm.out] at this
    omega
  replace hfln := hid hfln
  replace hF := hid hF
  replace hM := hid hM
  replace hO8 := hid hO8
  replace hO9 := hid hO9
  replace hK9 := hid hK9
  replace hk8 := hid hk8
  replace hg8 := hid hg8
  replace hf8 := hid hf8
  replace hB9 := hid hB9
  rw [hw9] at v0 v1 v2
  replace hw9 := hid hw9
  go_wp2_with fail
  have hK9' := hK9.out
  rw [hw9.out] at hK9'
  refine (judged_any qid M r a8 fl c8 w5.heap.size F _ hfln.out hfl8 hK9').mono ?_
  rintro e w10 ⟨ra, rc, rfl, ho10, hb10⟩
  rw [← hw9.out] at hb10 ho10
  have hLA := hid ((hO9.out.lat.below hb10).le B5.size)
  have hOR := hid (ho10.le hB9.out.size)
  have hBf := hid (bnext hB9.out hb10)
  replace ho10 := hid ho10
  replace hb10 := hid hb10
  replace hK9' := hid hK9'
  clear z0 z1 z2 v0 v1 v2
  obtain ⟨jv, hjv⟩ : ∃ jv, jv = judgeP (qid, M, F.map KV.flat) r := ⟨_, rfl⟩
  rw [← hjv] at hOR ⊢
  replace hjv := hid hjv
  go_wp2
  (try simp only [Exit.inBlock, Exit.then])
  refine bodyPost_ret (results_tmp4 rfl _ _ _) rfl ?_
  have hX : CV.flat ⟨qid, M, a8, c8, F⟩ = settleP ((Q7.map CV.flat).getD i (0, 0, [])) ak := by
    rw [← hfl.out, hF.out]
    exact settle_flat ⟨qid, qfl, qa, qc, qks⟩ M ak a8 c8 hM.out
  have hres : lookP (L.map CV.flat) cl r ak = ((Q7.set i ⟨qid, M, a8, c8, F⟩).map CV.flat, jv.1, jv.2, 0) := by
    have hpp' : placeP cl ((L.map CV.flat).map (·.1)) = (i, true) := by rw [cmap]; exact hpp.out
    have hw : withP (L.map CV.flat) cl = Q7.map CV.flat := by
      unfold withP
      rw [hpp']
      simp only [if_true]; exact hQ.out.symm
    have ha : atP (L.map CV.flat) cl = i := by unfold atP; rw [hpp']
    have hc : lookC (L.map CV.flat) cl ak = CV.flat ⟨qid, M, a8, c8, F⟩ := by unfold lookC; rw [hw, ha, hX]
    unfold lookP
    rw [hgood.out, if_neg (by simp), hpp', if_neg (by simp), hw, ha, hc, cset, hjv.out]
    rfl
  rw [hres]
  refine ⟨some ⟨g, 0, none⟩, c7, _, ra, rc, ?_, rfl, hLA.out, hOR.out, hBf.out⟩
  simp only [List.length_map, List.length_set, hQl.out]
  rfl

set_option maxRecDepth 100000 in
set_option maxHeartbeats 2000000 in
theorem look_new (a : Option Addr) (n c lo : Nat) (L : List CV) (cl r ak : Int) (w : World) (hL : L.length = n) (h : LAt w lo a L) (hgood : lookBad (L.map CV.flat) cl r ak = false) (hk : (placeP cl (L.map CV.id)).2 = false) (hn15 : n < 16) :
    Calls Try.prog 8 #[.slice a n c, .int .i64 cl, .int .i64 r, .int .i64 ak] w (LookPost (lookP (L.map CV.flat) cl r ak) w) := by
  have hr : rightP (L.map CV.flat) = true := by unfold lookBad at hgood; revert hgood; cases rightP (L.map CV.flat) <;> simp
  have h1 : numP cl = true := by unfold lookBad at hgood; revert hgood; cases numP cl <;> simp
  have h2 : numP r = true := by unfold lookBad at hgood; revert hgood; cases numP r <;> simp
  have d3 : decide (ak < 0) = false := by unfold lookBad at hgood; revert hgood; cases decide (ak < 0) <;> simp
  have d4 : decide (r ≤ ak) = false := by unfold lookBad at hgood; revert hgood; cases decide (r ≤ ak) <;> simp
  have hn16 := right_len hr
  rw [List.length_map, hL] at hn16
  have hn : n ≤ 9000000000000000000 := by omega
  replace hL := hid hL
  replace hgood := hid hgood
  have h8 := right_kept hr
  obtain ⟨i, hi⟩ : ∃ i, i = (placeP cl (L.map CV.id)).1 := ⟨_, rfl⟩
  have hil := place_le cl (L.map CV.id)
  rw [List.length_map, ← hi, hL.out] at hil
  have hpp : placeP cl (L.map CV.id) = (i, false) := by rw [hi, ← hk]
  have d16 : ((n : Int) == 16) = false := by simp; omega
  replace hr := hid hr
  replace h1 := hid h1
  replace h2 := hid h2
  replace hpp := hid hpp
  replace hi := hid hi
  replace hk := hid hk
  replace h8 := hid h8
  go_enter Try.func8, Try.ntmps8
  go_wp2_with fail
  refine (right_any a n c lo L _ hL.out h hn).mono ?_
  rintro e w2 ⟨rfl, hb2⟩
  rw [hr.out]
  go_wp2_with fail
  refine (isnum_any cl _).mono ?_
  rintro e w3 ⟨rfl, rfl⟩
  rw [h1.out]
  go_wp2_with fail
  refine (isnum_any r _).mono ?_
  rintro e w4 ⟨rfl, rfl⟩
  rw [h2.out]
  have hB2 := h.below hb2
  go_wp2_with fail
  refine (place_c a n c lo cl L _ hL.out hB2 (by omega)).mono ?_
  rintro e w5 ⟨rfl, hb5⟩
  rw [hpp.out]
  have B5 := bnext hb2 hb5
  go_wp2_with fail
  refine (copied_c a n c lo L _ hL.out (hB2.below hb5) (by omega) h8.out).mono ?_
  rintro e w6 ⟨v6, Q, rfl, hQ, hO6, hb6⟩
  have B6 := bnext B5 hb6
  have hQl : Q.length = n := by have := congrArg List.length hQ; simp at this; rw [this]; exact hL.out
  obtain ⟨a6, c6, rfl, hc6⟩ := owns_form hO6.row
  rw [hQl] at hO6 hc6 ⊢
  have h86 : ∀ x ∈ Q, x.ks.length ≤ 8 := fun x hx => by
    obtain ⟨j, hj, rfl⟩ := List.getElem_of_mem hx
    have h1 := congrArg (fun l => (l[j]?).map (fun y : PC => y.2.2.length)) hQ
    have hjL : j < L.length := by rw [hL.out, ← hQl]; exact hj
    simp only [List.getElem?_map, List.getElem?_eq_getElem hj, List.getElem?_eq_getElem hjL, Option.map_some, Option.some.injEq] at h1
    have h2 := h8.out _ (List.getElem_mem hjL)
    simp only [CV.flat, List.length_map] at h1
    omega
  have bL := below_lit w6 (.cells #[.int .i64 cl, .int .i64 0, .slice none 0 0] 34)
  have hOL := hO6.below bL
  have hrL := hOL.row
  rw [hQl] at hrL
  have hvL : (w6.alloc (.cells #[.int .i64 cl, .int .i64 0, .slice none 0 0] 34)).heap[w6.heap.size]? = some (.cells [Value.int .i64 cl, .int .i64 0, .slice none 0 0].toArray 34 (0, 0)) := heap_alloc_new w6 _
  have hins := insert_c a6 n c6 i w6.heap.size (Q.flatMap CV.cells) [.int .i64 cl, .int .i64 0, .slice none 0 0] _ w5.heap.size (by omega) hil hrL (Nat.le_trans hb6.size bL.size) hvL rfl (fun e => by have := (World.ownsRow.lt hO6.row _ e).2; omega) (by simp [Value.oneCell']) (ccells_one Q)
  replace hO6 := hid hO6
  replace hrL := hid hrL
  replace hvL := hid hvL
  replace hQl := hid hQl
  replace hQ := hid hQ
  replace h86 := hid h86
  replace hOL := hid hOL
  go_wp2_with fail
  refine hins.mono ?_
  rintro e w7 ⟨v7, rfl, hr7, hk7, hv7⟩
  have hO7 := hOL.out.ins cl hQl.out hr7 hk7
  obtain ⟨Q7, hQ7⟩ : ∃ Q7, Q7 = Q.take i ++ ⟨cl, 0, none, 0, []⟩ :: Q.drop i := ⟨_, rfl⟩
  rw [← hQ7] at hO7
  obtain ⟨a7, c7, rfl, hc7⟩ := owns_form hr7
  have hQQ : Q7.map CV.flat = (L.map CV.flat).take i ++ (cl, 0, []) :: (L.map CV.flat).drop i := by
    rw [hQ7, List.map_append, List.map_cons, List.map_take, List.map_drop, hQ.out]
    rfl
  have hQl7 : Q7.length = n + 1 := by
    have := hQl.out
    rw [hQ7]; simp; omega
  have B7 : Below w.heap.size w w7 := (bnext B6 bL).trans (hk7.below (fun k e => Nat.le_trans B5.size (World.ownsRow.lt hO6.out.row k e).1) (bnext B6 bL).size)
  have h87 : Hid (∀ x ∈ Q7, x.ks.length ≤ 8) := hid fun x hx => by
    rw [hQ7] at hx
    rcases List.mem_append.1 hx with h1 | h1
    · exact h86.out x (List.mem_of_mem_take h1)
    · rcases List.mem_cons.1 h1 with rfl | h2
      · simp
      · exact h86.out x (List.mem_of_mem_drop h2)
  replace hQ := hid hQQ
  replace hr7 := hid hr7
  replace hk7 := hid hk7
  replace hv7 := hid hv7
  clear hQ7 hQQ hQl
  have hQl := hQl7
  clear hQl7
  have hiQ0 : i < Q7.length := by omega
  obtain ⟨g, rfl, -, hgc, hbg, hgl, hfz, x0, x1, x2⟩ := hO7.one i hiQ0
  have hKO := hO7.own _ (List.getElem_mem hiQ0)
  have h8i : Q7[i].ks.length ≤ 8 := h87.out _ (List.getElem_mem hiQ0)
  obtain ⟨q, hq⟩ : ∃ q, q = Q7[i]'hiQ0 := ⟨_, rfl⟩
  have hupd := fun w8 S hS hk x hx hxa => hid (COwn.upd (w2 := w8) hO7 hiQ0 S hS hk x hx hxa)
  rw [← hq] at x0 x1 x2 hKO h8i hupd
  have hfl : Hid (q.flat = (Q7.map CV.flat).getD i (0, 0, [])) := hid (by rw [hq]; simp [List.getD, hiQ0])
  replace hq := hid hq
  obtain ⟨qid, qfl, qa, qc, qks⟩ := q
  simp only at x0 x1 x2 hKO h8i hupd
  obtain ⟨m, hm⟩ : ∃ m, qks.length = m := ⟨_, rfl⟩
  rw [hm] at x2 hKO h8i hupd
  replace hm := hid hm
  have y0 := hfz (i * 3)
  have y1 := hfz (i * 3 + 1)
  have y2 := hfz (i * 3 + 2)
  replace hfz := hid hfz
  replace hupd := hid hupd
  replace hKO := hid hKO
  replace hO7 := hid hO7
  replace hQl := hid hQl
  go_wp2_with fail
  refine (settled_any qid qfl ak qa m qc _ qks _ hm.out h8i hKO.out).mono ?_
  rintro e w8 ⟨a8, c8, rfl, hO8, hk8, hv8⟩
  obtain ⟨M, hM⟩ : ∃ M, M = max qfl ak := ⟨_, rfl⟩
  rw [← hM] at hO8 ⊢
  obtain ⟨F, hF⟩ : ∃ F, F = (qks.filter fun k => !decide (k.num ≤ M)) := ⟨_, rfl⟩
  rw [← hF] at hO8 ⊢
  have hO9 := (hupd.out w8 _ (fun k hk => .inl hk) hk8 ⟨qid, M, a8, c8, F⟩ hO8 (fun y hy => .inl (hv8 y hy))).out
  have hg8 : ∀ o, w8.cell? ⟨g, o, none⟩ = w7.cell? ⟨g, o, none⟩ := fun o => World.cell?_of_block (w := w7) (a := ⟨g, o, none⟩) (hk8.block g hgl (fun e => rows_off hKO.out.row hO7.out.row (by decide) g e rfl))
  have hf8 : ∀ o, w8.frozen? ⟨g, o, none⟩ = false := fun o => by
    have : w8.frozen? ⟨g, o, none⟩ = w7.frozen? ⟨g, o, none⟩ := by unfold World.frozen?; rw [hk8.block g hgl (fun e => rows_off hKO.out.row hO7.out.row (by decide) g e rfl)]
    rw [this]; exact hfz.out o
  have z0 := (hg8 (i * 3)).trans x0
  have z1 := (hg8 (i * 3 + 1)).trans x1
  have z2 := (hg8 (i * 3 + 2)).trans x2
  have f0 := hf8 (i * 3)
  have f1 := hf8 (i * 3 + 1)
  have f2 := hf8 (i * 3 + 2)
  obtain ⟨fl, hfln⟩ : ∃ x, F.length = x := ⟨_, rfl⟩
  rw [hfln] at hO8 hO9 ⊢
  simp only at hO9
  have hkS : Kp (fun k => w.heap.size ≤ k) w _ := (((Kp.next (Kp.of_below (S := fun k => w.heap.size ≤ k) B7) hk8 (fun k _ e => Nat.le_trans B5.size (World.ownsRow.lt hKO.out.row k e).1)).setCell (p := ⟨g, i * 3, none⟩) (Nat.le_trans B5.size hbg) (.int .i64 qid)).setCell (p := ⟨g, i * 3 + 1, none⟩) (Nat.le_trans B5.size hbg) (.int .i64 M)).setCell (p := ⟨g, i * 3 + 2, none⟩) (Nat.le_trans B5.size hbg) (.slice a8 fl c8)
  have hB9 := hkS.below (base := w.heap.size) (fun k h => h) (Nat.le_refl _)
  replace hkS := hid hkS
  obtain ⟨w9, hw9⟩ : ∃ w9, w9 = ((w8.setCell ⟨g, i * 3, none⟩ (.int .i64 qid)).setCell ⟨g, i * 3 + 1, none⟩ (.int .i64 M)).setCell ⟨g, i * 3 + 2, none⟩ (.slice a8 fl c8) := ⟨_, rfl⟩
  rw [← hw9] at hO9 hB9
  obtain ⟨g', hgg, -, -, -, -, -, v0, v1, v2⟩ := hO9.one i (by rw [List.length_set]; exact hiQ0)
  cases hgg
  simp only [List.getElem_set_self] at v0 v1 v2
  have hK9 := (hO9.own ⟨qid, M, a8, c8, F⟩ (by rw [List.mem_iff_getElem]; exact ⟨i, by rw [List.length_set]; exact hiQ0, by simp⟩)).kat
  simp only at hK9 v0 v1 v2
  rw [hfln] at v2
  have hfl8 : fl ≤ 1000000 := by
    have : F.length ≤ qks.length := by rw [hF]; exact List.length_filter_le _ _
    rw [hfln, hm.out] at this
    omega
  replace hfln := hid hfln
  replace hF := hid hF
  replace hM := hid hM
  replace hO8 := hid hO8
  replace hO9 := hid hO9
  replace hK9 := hid hK9
  replace hk8 := hid hk8
  replace hg8 := hid hg8
  replace hf8 := hid hf8
  replace hB9 := hid hB9
  rw [hw9] at v0 v1 v2
  replace hw9 := hid hw9
  go_wp2_with fail
  have hK9' := hK9.out
  rw [hw9.out] at hK9'
  refine (judged_any qid M r a8 fl c8 w5.heap.size F _ hfln.out hfl8 hK9').mono ?_
  rintro e w10 ⟨ra, rc, rfl, ho10, hb10⟩
  rw [← hw9.out] at hb10 ho10
  have hLA := hid ((hO9.out.lat.below hb10).le B5.size)
  have hOR := hid (ho10.le hB9.out.size)
  have hBf := hid (bnext hB9.out hb10)
  replace ho10 := hid ho10
  replace hb10 := hid hb10
  replace hK9' := hid hK9'
  clear z0 z1 z2 v0 v1 v2
  obtain ⟨jv, hjv⟩ : ∃ jv, jv = judgeP (qid, M, F.map KV.flat) r := ⟨_, rfl⟩
  rw [← hjv] at hOR ⊢
  replace hjv := hid hjv
  go_wp2
  (try simp only [Exit.inBlock, Exit.then])
  refine bodyPost_ret (results_tmp4 rfl _ _ _) rfl ?_
  have hX : CV.flat ⟨qid, M, a8, c8, F⟩ = settleP ((Q7.map CV.flat).getD i (0, 0, [])) ak := by
    rw [← hfl.out, hF.out]
    exact settle_flat ⟨qid, qfl, qa, qc, qks⟩ M ak a8 c8 hM.out
  have hres : lookP (L.map CV.flat) cl r ak = ((Q7.set i ⟨qid, M, a8, c8, F⟩).map CV.flat, jv.1, jv.2, 0) := by
    have hpp' : placeP cl ((L.map CV.flat).map (·.1)) = (i, false) := by rw [cmap]; exact hpp.out
    have hw : withP (L.map CV.flat) cl = Q7.map CV.flat := by
      unfold withP
      rw [hpp']
      simp only [Bool.false_eq_true, if_false]; exact hQ.out.symm
    have ha : atP (L.map CV.flat) cl = i := by unfold atP; rw [hpp']
    have hc : lookC (L.map CV.flat) cl ak = CV.flat ⟨qid, M, a8, c8, F⟩ := by unfold lookC; rw [hw, ha, hX]
    unfold lookP
    rw [hgood.out, if_neg (by simp), hpp', if_neg (by simp; rw [hL.out]; omega), hw, ha, hc, cset, hjv.out]
    rfl
  rw [hres]
  refine ⟨some ⟨g, 0, none⟩, c7, _, ra, rc, ?_, rfl, hLA.out, hOR.out, hBf.out⟩
  simp only [List.length_map, List.length_set, hQl.out]
  rfl

theorem look_any (a : Option Addr) (n c lo : Nat) (L : List CV) (cl r ak : Int) (w : World) (hL : L.length = n) (h : LAt w lo a L) (hn : n ≤ 9000000000000000000) :
    Calls Try.prog 8 #[.slice a n c, .int .i64 cl, .int .i64 r, .int .i64 ak] w (LookPost (lookP (L.map CV.flat) cl r ak) w) := by
  cases hb : lookBad (L.map CV.flat) cl r ak with
  | true =>
    have e : lookP (L.map CV.flat) cl r ak = ([], 0, [], 2) := by unfold lookP; rw [hb]; rfl
    rw [e]
    exact look_bad a n c lo L cl r ak w hL h hn hb
  | false =>
    cases hk : (placeP cl (L.map CV.id)).2 with
    | true => exact look_known a n c lo L cl r ak w hL h hb hk
    | false =>
      by_cases h16 : n = 16
      · have e : lookP (L.map CV.flat) cl r ak = ([], 0, [], 5) := by
          unfold lookP
          rw [hb, if_neg (by simp), cmap, hk, if_pos (by simp; omega)]
        rw [e]
        exact look_full a n c lo L cl r ak w hL h hb hk h16
      · refine look_new a n c lo L cl r ak w hL h hb hk ?_
        have hr : rightP (L.map CV.flat) = true := by unfold lookBad at hb; revert hb; cases rightP (L.map CV.flat) <;> simp
        have := right_len hr
        rw [List.length_map] at this
        omega

end Go.Proofs.Ythjggjjocfbjcaa
