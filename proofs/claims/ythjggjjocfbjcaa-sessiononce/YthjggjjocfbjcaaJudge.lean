/- judged, Right. -/
import Derived.Test.YthjggjjocfbjcaaSettle
namespace Go.Proofs.Ythjggjjocfbjcaa
open Go.RowKit

theorem kmap (ks : List KV) : (ks.map KV.flat).map (·.1) = ks.map KV.num := by rw [List.map_map]; rfl
theorem cmap (L : List CV) : (L.map CV.flat).map (·.1) = L.map CV.id := by rw [List.map_map]; rfl

set_option maxRecDepth 100000 in
set_option maxHeartbeats 1000000 in
theorem judged_any (id fl r : Int) (a : Option Addr) (n c lo : Nat) (ks : List KV) (w : World) (hl : ks.length = n) (hn : n ≤ 1000000) (h : KAt w lo a ks) :
    Calls Try.prog 41 #[.agg #[.int .i64 id, .int .i64 fl, .slice a n c], .int .i64 r] w fun e w' => ∃ ra rc, e = .returned (.tuple #[.int .u8 (judgeP (id, fl, ks.map KV.flat) r).1, .slice ra (judgeP (id, fl, ks.map KV.flat) r).2.length rc]) ∧ Own w' w.heap.size (.slice ra (judgeP (id, fl, ks.map KV.flat) r).2.length rc) (judgeP (id, fl, ks.map KV.flat) r).2 ∧ Below w.heap.size w w' := by
  have b1 := below_lit w (.cells #[.int .i64 id, .int .i64 fl, .slice a n c] 34)
  have p1 := CBlk.new w (.int .i64 id) (.int .i64 fl) (.slice a n c)
  have hj : judgeP (id, fl, ks.map KV.flat) r = if r ≤ fl then (3, [])
      else if (placeP r (ks.map KV.num)).2 then (2, ((ks[(placeP r (ks.map KV.num)).1]?).map KV.body).getD [])
      else if n = 8 then (4, []) else (1, []) := by
    unfold judgeP
    simp only [kmap, List.getElem?_map, Option.map_map, List.length_map, hl]
    rfl
  by_cases h1 : r ≤ fl
  · have d1 : decide (r ≤ fl) = true := by simpa using h1
    rw [if_pos h1] at hj
    rw [hj]
    replace h1 := hid h1
    replace hj := hid hj
    replace hl := hid hl
    go_enter Try.func41, Try.ntmps41
    go_wp2
    go_ret2
    exact ⟨none, 0, rfl, Own.nil _ _, b1⟩
  · have d1 : decide (r ≤ fl) = false := by simpa using h1
    rw [if_neg h1] at hj
    replace h1 := hid h1
    have h2 := h.below b1
    cases hp : (placeP r (ks.map KV.num)).2 with
    | true =>
      have hpl := place_lt r _ hp
      rw [List.length_map] at hpl
      rw [hp] at hj
      rw [if_pos rfl, List.getElem?_eq_getElem hpl] at hj
      simp only [Option.map_some, Option.getD_some] at hj
      rw [hj]
      obtain ⟨i, hi⟩ : ∃ i, i = (placeP r (ks.map KV.num)).1 := ⟨_, rfl⟩
      have hpp : placeP r (ks.map KV.num) = (i, true) := by rw [hi, ← hp]
      simp only [← hi] at hpl ⊢
      have hin : i < n := by omega
      have hshort := h2.short _ (List.getElem_mem hpl)
      unfold SMALL at hshort
      obtain ⟨kk, hkk⟩ : ∃ kk, kk = ks[i] := ⟨_, rfl⟩
      rw [← hkk] at hshort ⊢
      obtain ⟨num, ka, kc, body⟩ := kk
      simp only at hshort ⊢
      obtain ⟨len, hlen⟩ : ∃ x, body.length = x := ⟨_, rfl⟩
      rw [hlen] at hshort ⊢
      replace hlen := hid hlen
      replace hkk := hid hkk
      replace hi := hid hi
      replace hj := hid hj
      replace hp := hid hp
      replace hl := hid hl
      replace hpp := hid hpp
      replace p1 := hid p1
      go_enter Try.func41, Try.ntmps41
      go_wp2_with fail
      refine (place_k a n c lo r ks _ hl.out h2 (by omega)).mono ?_
      rintro e w2 ⟨rfl, hb2⟩
      rw [hpp.out]
      have h3 := h2.below hb2
      obtain ⟨b, o, e⟩ := h3.place (by intro e; rw [e] at hpl; simp at hpl)
      subst e
      have x1 := (h3.one i hpl).2
      have hat := h3.body _ (List.getElem_mem hpl)
      have q2 := p1.out.below hb2
      have c2 := q2.cell2
      rw [← hkk.out] at x1 hat
      simp only at x1 hat
      rw [hlen.out] at x1
      replace q2 := hid q2
      replace h2 := hid h2
      replace h3 := hid h3
      replace h := hid h
      go_wp2_with fail
      refine (bclone_any ka kc len body _ hlen.out hshort hat).mono ?_
      rintro e w3 ⟨a', c', rfl, ho, hb3⟩
      have B := bnext b1 (bnext hb2 hb3)
      have ho2 := hid (ho.le (Nat.le_trans b1.size hb2.size))
      replace ho := hid ho
      go_wp2
      go_ret2
      exact ⟨a', c', rfl, ho2.out, B⟩
    | false =>
      obtain ⟨i, hi⟩ : ∃ i, i = (placeP r (ks.map KV.num)).1 := ⟨_, rfl⟩
      have hpp : placeP r (ks.map KV.num) = (i, false) := by rw [hi, ← hp]
      rw [hp, if_neg (by simp)] at hj
      replace hi := hid hi
      replace hp := hid hp
      replace hl := hid hl
      replace hpp := hid hpp
      replace p1 := hid p1
      by_cases h8 : n = 8
      · rw [if_pos h8] at hj
        rw [hj]
        replace hj := hid hj
        subst h8
        go_enter Try.func41, Try.ntmps41
        go_wp2_with fail
        refine (place_k a 8 c lo r ks _ hl.out h2 (by omega)).mono ?_
        rintro e w2 ⟨rfl, hb2⟩
        rw [hpp.out]
        have c2 := (p1.out.below hb2).cell2
        have B := bnext b1 hb2
        replace h2 := hid h2
        go_wp2
        go_ret2
        exact ⟨none, 0, rfl, Own.nil _ _, B⟩
      · rw [if_neg h8] at hj
        rw [hj]
        replace hj := hid hj
        have d8 : ((n : Int) == 8) = false := by simp; omega
        go_enter Try.func41, Try.ntmps41
        go_wp2_with fail
        refine (place_k a n c lo r ks _ hl.out h2 (by omega)).mono ?_
        rintro e w2 ⟨rfl, hb2⟩
        rw [hpp.out]
        have c2 := (p1.out.below hb2).cell2
        have B := bnext b1 hb2
        replace h2 := hid h2
        go_wp2
        go_ret2
        exact ⟨none, 0, rfl, Own.nil _ _, B⟩

theorem right_bad {L : List CV} {j : Nat} (hj : j < L.length) (h : okC L[j].flat = false) : rightP (L.map CV.flat) = false := by
  unfold rightP
  rw [show (L.map CV.flat).all okC = false by
    rw [Bool.eq_false_iff]
    intro hc
    have := List.all_eq_true.1 hc L[j].flat (List.mem_map.2 ⟨L[j], List.getElem_mem hj, rfl⟩)
    rw [h] at this; cases this]
  simp

set_option maxRecDepth 100000 in
set_option maxHeartbeats 1000000 in
theorem right_any (a : Option Addr) (n c lo : Nat) (L : List CV) (w : World) (hL : L.length = n) (h : LAt w lo a L) (hn : n ≤ 9000000000000000000) :
    Calls Try.prog 10 #[.slice a n c] w fun e w' => e = .returned (.bool (rightP (L.map CV.flat))) ∧ Below w.heap.size w w' := by
  by_cases h16 : (16 : Int) < n
  · have d1 : decide ((16 : Int) < (n : Int)) = true := by simpa using h16
    have hr : rightP (L.map CV.flat) = false := by
      unfold rightP
      rw [show decide ((L.map CV.flat).length ≤ 16) = false by simp [hL]; omega]
      rfl
    rw [hr]
    replace hL := hid hL
    replace hr := hid hr
    replace h16 := hid h16
    go_enter Try.func10, Try.ntmps10
    go_wp2
    go_ret
    exact ⟨rfl, Below.refl _ _⟩
  · have d1 : decide ((16 : Int) < (n : Int)) = false := by simpa using h16
    have hn16 : n ≤ 16 := by omega
    replace h16 := hid h16
    cases hrise : riseB 0 4611686018427387904 (L.map CV.id) with
    | false =>
      have hr : rightP (L.map CV.flat) = false := by
        unfold rightP
        rw [cmap]
        unfold MM
        rw [hrise]
        simp
      rw [hr]
      replace hL := hid hL
      replace hr := hid hr
      replace hrise := hid hrise
      go_enter Try.func10, Try.ntmps10
      go_wp2_with fail
      refine (rise_c a n c lo 0 4611686018427387904 L _ hL.out h (by omega)).mono ?_
      rintro e w2 ⟨rfl, hb2⟩
      rw [hrise.out]
      go_wp2
      go_ret
      exact ⟨rfl, hb2⟩
    | true =>
      have hr : rightP (L.map CV.flat) = (L.map CV.flat).all okC := by
        unfold rightP
        rw [cmap]
        unfold MM
        rw [hrise, show decide ((L.map CV.flat).length ≤ 16) = true by simp [hL]; omega]
        rfl
      replace hL := hid hL
      replace hr := hid hr
      replace hrise := hid hrise
      go_enter Try.func10, Try.ntmps10
      go_wp2_with fail
      refine (rise_c a n c lo 0 4611686018427387904 L _ hL.out h (by omega)).mono ?_
      rintro e w2 ⟨rfl, hb2⟩
      rw [hrise.out]
      go_wp2_with fail
      go_loopw [15] (fun i wr => ∃ j : Nat, j ≤ n ∧ i = .int .i64 (j : Int) ∧ Hid (∀ x ∈ L.take j, okC x.flat = true) ∧ Below w.heap.size w wr) (fun i _ => n - (intOf i).toNat)
      case atStart => exact ⟨0, Nat.zero_le _, rfl, hid (by simp), hb2⟩
      case round =>
        obtain ⟨j, hj, rfl, hok, hb⟩ := hrel
        by_cases hlt : j < n
        · have hjL : j < L.length := by rw [hL.out]; exact hlt
          obtain ⟨b, o, e⟩ := h.place (by intro e; rw [e] at hjL; simp at hjL)
          subst e
          have hr2 := h.below hb
          obtain ⟨x0, x1, x2⟩ := hr2.one j hjL
          have hk := hr2.kept _ (List.getElem_mem hjL)
          have hbad := fun h => hid (right_bad (L := L) hjL h)
          have hgood : Hid (okC L[j].flat = true → ∀ x ∈ L.take (j + 1), okC x.flat = true) := hid fun hg x hx => by
            rw [List.take_succ_eq_append_getElem hjL] at hx
            rcases List.mem_append.1 hx with hx | hx
            · exact hok.out x hx
            · simp at hx; subst hx; exact hg
          have hokd : okC L[j].flat = ((decide (0 ≤ L[j].fl) && decide (L[j].fl ≤ MM) && decide (L[j].ks.length ≤ 8)) && riseB L[j].fl MM (L[j].ks.map KV.num)) := by
            show ((decide (0 ≤ L[j].fl) && decide (L[j].fl ≤ MM) && decide ((L[j].ks.map KV.flat).length ≤ 8)) && riseB L[j].fl MM ((L[j].ks.map KV.flat).map (·.1))) = _
            rw [kmap, List.length_map]
          rw [hokd] at hbad hgood
          clear hokd
          generalize L[j] = x at x0 x1 x2 hk hbad hgood
          obtain ⟨id, fl, ka, kc, ks⟩ := x
          simp only at x0 x1 x2 hk hbad hgood
          unfold MM at hbad hgood
          obtain ⟨m, hm⟩ : ∃ m, ks.length = m := ⟨_, rfl⟩
          rw [hm] at x2 hbad hgood
          replace hm := hid hm
          have b4 := below_lit wr (.cells #[.int .i64 id, .int .i64 fl, .slice ka m kc] 34)
          have B4 := bnext hb b4
          have hk4 := hk.below b4
          replace hk := hid hk
          replace hr2 := hid hr2
          replace hbad := hid hbad
          replace hgood := hid hgood
          by_cases e1 : fl < 0
          · have g1 : decide (fl < 0) = true := by simpa using e1
            have hf := hbad.out (by rw [show decide (0 ≤ fl) = false by simp; omega]; rfl)
            replace e1 := hid e1
            replace hk4 := hid hk4
            go_wp2
            go_ret
            exact ⟨ret_bool hf.out.symm, B4⟩
          · have g1 : decide (fl < 0) = false := by simpa using e1
            by_cases e2 : 4611686018427387904 < fl
            · have g2 : decide (4611686018427387904 < fl) = true := by simpa using e2
              have hf := hbad.out (by rw [show decide (fl ≤ 4611686018427387904) = false by simp; omega]; simp)
              replace e1 := hid e1
              replace e2 := hid e2
              replace hk4 := hid hk4
              go_wp2
              go_ret
              exact ⟨ret_bool hf.out.symm, B4⟩
            · have g2 : decide (4611686018427387904 < fl) = false := by simpa using e2
              by_cases e3 : (8 : Int) < m
              · have g3 : decide ((8 : Int) < (m : Int)) = true := by simpa using e3
                have hf := hbad.out (by rw [show decide (m ≤ 8) = false by simp; omega]; simp)
                replace e1 := hid e1
                replace e2 := hid e2
                replace e3 := hid e3
                replace hk4 := hid hk4
                go_wp2
                go_ret
                exact ⟨ret_bool hf.out.symm, B4⟩
              · have g3 : decide ((8 : Int) < (m : Int)) = false := by simpa using e3
                have s1 : decide (0 ≤ fl) = true := by simp; omega
                have s2 : decide (fl ≤ 4611686018427387904) = true := by simp; omega
                have s3 : decide (m ≤ 8) = true := by simp; omega
                have hm8 : m ≤ 8 := by omega
                rw [s1, s2, s3] at hbad hgood
                replace s1 := hid s1
                replace s2 := hid s2
                replace s3 := hid s3
                replace e1 := hid e1
                replace e2 := hid e2
                replace e3 := hid e3
                go_wp2_with fail
                refine (rise_k ka m kc lo fl 4611686018427387904 ks _ hm.out hk4 (by omega)).mono ?_
                rintro e w5 ⟨rfl, hb5⟩
                have B5 := bnext B4 hb5
                cases hrr : riseB fl 4611686018427387904 (ks.map KV.num) with
                | false =>
                  have hf := hbad.out (by rw [hrr]; rfl)
                  replace hk4 := hid hk4
                  replace hrr := hid hrr
                  go_wp2
                  go_ret
                  exact ⟨ret_bool hf.out.symm, B5⟩
                | true =>
                  have hf := hid (hgood.out (by rw [hrr]; rfl))
                  replace hk4 := hid hk4
                  replace hrr := hid hrr
                  go_wp2_with fail
                  go_roundw
                  case rel => exact ⟨j + 1, by omega, by go_num, hf, B5⟩
                  case measure => simp [intOf]; omega
        · obtain rfl : j = n := by omega
          have hf : Hid (rightP (L.map CV.flat) = true) := hid (by
            rw [hr.out]
            refine List.all_eq_true.2 (fun x hx => ?_)
            obtain ⟨y, hy, rfl⟩ := List.mem_map.1 hx
            exact hok.out y (by rw [← hL.out, List.take_length]; exact hy))
          replace hok := hid hok
          go_wp2
          go_ret
          exact ⟨ret_bool hf.out.symm, hb⟩

end Go.Proofs.Ythjggjjocfbjcaa
