/- Done. -/
import Derived.Test.YthjggjjocfbjcaaDoneOk
namespace Go.Proofs.Ythjggjjocfbjcaa
open Go.RowKit

theorem done_bad0 {l : List PC} {cl r : Int} {reply : List UInt8} (h : rightP l = false) : doneP l cl r reply = ([], 2) := by unfold doneP; rw [h]; rfl

set_option maxRecDepth 100000 in
set_option maxHeartbeats 1000000 in
theorem done_right (a : Option Addr) (n c lo : Nat) (L : List CV) (cl r : Int) (ra : Option Addr) (rl rc : Nat) (reply : List UInt8) (w : World) (hL : L.length = n) (h : LAt w lo a L) (hn : n ≤ 9000000000000000000) (hr : rightP (L.map CV.flat) = false) :
    Calls Try.prog 9 #[.slice a n c, .int .i64 cl, .int .i64 r, .slice ra rl rc] w (DonePost (doneP (L.map CV.flat) cl r reply) w) := by
  rw [done_bad0 hr]
  replace hL := hid hL
  replace hr := hid hr
  go_enter Try.func9, Try.ntmps9
  go_wp2_with fail
  refine (right_any a n c lo L _ hL.out h hn).mono ?_
  rintro e w2 ⟨rfl, hb2⟩
  rw [hr.out]
  go_wp2
  go_ret2
  exact done_none 2 w w2 hb2

set_option maxRecDepth 100000 in
set_option maxHeartbeats 1000000 in
theorem done_unknown (a : Option Addr) (n c lo : Nat) (L : List CV) (cl r : Int) (ra : Option Addr) (rl rc : Nat) (reply : List UInt8) (w : World) (hL : L.length = n) (h : LAt w lo a L) (hr : rightP (L.map CV.flat) = true) (hk : (placeP cl (L.map CV.id)).2 = false) :
    Calls Try.prog 9 #[.slice a n c, .int .i64 cl, .int .i64 r, .slice ra rl rc] w (DonePost (doneP (L.map CV.flat) cl r reply) w) := by
  have e : doneP (L.map CV.flat) cl r reply = ([], 2) := by
    unfold doneP
    rw [hr, if_neg (by simp), cmap, hk]
    rfl
  rw [e]
  obtain ⟨i, hi⟩ : ∃ i, i = (placeP cl (L.map CV.id)).1 := ⟨_, rfl⟩
  have hpp : placeP cl (L.map CV.id) = (i, false) := by rw [hi, ← hk]
  have hn16 := right_len hr
  rw [List.length_map, hL] at hn16
  have hn : n ≤ 9000000000000000000 := by omega
  replace hL := hid hL
  replace hr := hid hr
  replace hpp := hid hpp
  replace hi := hid hi
  replace hk := hid hk
  replace e := hid e
  go_enter Try.func9, Try.ntmps9
  go_wp2_with fail
  refine (right_any a n c lo L _ hL.out h hn).mono ?_
  rintro e w2 ⟨rfl, hb2⟩
  rw [hr.out]
  have hB2 := h.below hb2
  go_wp2_with fail
  refine (place_c a n c lo cl L _ hL.out hB2 (by omega)).mono ?_
  rintro e w3 ⟨rfl, hb3⟩
  rw [hpp.out]
  have B3 := bnext hb2 hb3
  have hB3 := hB2.below hb3
  go_wp2
  go_ret2
  exact done_none 2 w w3 B3

set_option maxRecDepth 100000 in
set_option maxHeartbeats 2000000 in
theorem done_known (a : Option Addr) (n c lo : Nat) (L : List CV) (cl r : Int) (ra : Option Addr) (rl rc : Nat) (reply : List UInt8) (w : World) (hL : L.length = n) (h : LAt w lo a L) (hrl : reply.length = rl) (hrs : rl ≤ 140737488355328) (hat : At w ra reply) (hr : rightP (L.map CV.flat) = true) (hk : (placeP cl (L.map CV.id)).2 = true) :
    Calls Try.prog 9 #[.slice a n c, .int .i64 cl, .int .i64 r, .slice ra rl rc] w (DonePost (doneP (L.map CV.flat) cl r reply) w) := by
  have hn16 := right_len hr
  rw [List.length_map, hL] at hn16
  have hn : n ≤ 9000000000000000000 := by omega
  have h8 := right_kept hr
  obtain ⟨i, hi⟩ : ∃ i, i = (placeP cl (L.map CV.id)).1 := ⟨_, rfl⟩
  have hil := place_lt cl _ hk
  rw [List.length_map, ← hi] at hil
  have hin : i < n := by rw [← hL]; exact hil
  have hpp : placeP cl (L.map CV.id) = (i, true) := by rw [hi, ← hk]
  have hpp' : placeP cl ((L.map CV.flat).map (·.1)) = (i, true) := by rw [cmap]; exact hpp
  have ha : atP (L.map CV.flat) cl = i := by unfold atP; rw [hpp']
  obtain ⟨q, hq⟩ : ∃ q, q = L[i] := ⟨_, rfl⟩
  have hgd : (L.map CV.flat).getD (atP (L.map CV.flat) cl) (0, 0, []) = q.flat := by rw [ha, hq]; simp [List.getD, hil]
  have hq8 : q.ks.length ≤ 8 := by rw [hq]; exact h8 _ (List.getElem_mem hil)
  have hd0 : doneP (L.map CV.flat) cl r reply = if !numP r || decide (r ≤ q.fl) then ([], 2)
      else if (placeP r (q.ks.map KV.num)).2 then ([], 2)
      else if 65536 < reply.length then ([], 3)
      else if q.ks.length = 8 then ([], 5)
      else ((L.map CV.flat).set i (q.id, q.fl, (q.ks.map KV.flat).take (placeP r (q.ks.map KV.num)).1 ++ (r, reply) :: (q.ks.map KV.flat).drop (placeP r (q.ks.map KV.num)).1), 0) := by
    unfold doneP
    rw [hr, if_neg (by simp), hpp', hgd, ha]
    have e2 : q.flat = (q.id, q.fl, q.ks.map KV.flat) := rfl
    rw [e2]
    simp only [kmap, List.length_map, Bool.not_true, Bool.false_or]
  replace hL := hid hL
  replace hr := hid hr
  replace hrl := hid hrl
  replace hpp := hid hpp
  replace hpp' := hid hpp'
  replace hi := hid hi
  replace hk := hid hk
  replace h8 := hid h8
  replace ha := hid ha
  replace hgd := hid hgd
  replace hq := hid hq
  cases h2 : numP r with
  | false =>
    rw [hd0, h2]
    show Calls Try.prog 9 _ w (DonePost ([], 2) w)
    replace h2 := hid h2
    replace hd0 := hid hd0
    go_enter Try.func9, Try.ntmps9
    go_wp2_with fail
    refine (right_any a n c lo L _ hL.out h hn).mono ?_
    rintro e w2 ⟨rfl, hb2⟩
    rw [hr.out]
    have hB2 := h.below hb2
    go_wp2_with fail
    refine (place_c a n c lo cl L _ hL.out hB2 (by omega)).mono ?_
    rintro e w3 ⟨rfl, hb3⟩
    rw [hpp.out]
    have B3 := bnext hb2 hb3
    have hB3 := hB2.below hb3
    go_wp2_with fail
    refine (isnum_any r _).mono ?_
    rintro e w4 ⟨rfl, rfl⟩
    rw [h2.out]
    go_wp2
    go_ret2
    exact done_none 2 w w4 B3
  | true =>
    rw [h2, Bool.not_true, Bool.false_or] at hd0
    replace h2 := hid h2
    by_cases h3 : r ≤ q.fl
    · rw [hd0, decide_eq_true h3]
      show Calls Try.prog 9 _ w (DonePost ([], 2) w)
      replace hd0 := hid hd0
      go_enter Try.func9, Try.ntmps9
      go_wp2_with fail
      refine (right_any a n c lo L _ hL.out h hn).mono ?_
      rintro e w2 ⟨rfl, hb2⟩
      rw [hr.out]
      have hB2 := h.below hb2
      go_wp2_with fail
      refine (place_c a n c lo cl L _ hL.out hB2 (by omega)).mono ?_
      rintro e w3 ⟨rfl, hb3⟩
      rw [hpp.out]
      have B3 := bnext hb2 hb3
      have hB3 := hB2.below hb3
      go_wp2_with fail
      refine (isnum_any r _).mono ?_
      rintro e w4 ⟨rfl, rfl⟩
      rw [h2.out]
      obtain ⟨b, o, e⟩ := hB3.place (by intro e; rw [e] at hil; simp at hil)
      subst e
      obtain ⟨x0, x1, x2⟩ := hB3.one i hil
      have hKA := hB3.kept _ (List.getElem_mem hil)
      rw [← hq.out] at x0 x1 x2 hKA
      obtain ⟨qid, qfl, qa, qc, qks⟩ := q
      simp only at x0 x1 x2 hKA hq8 h3
      obtain ⟨m, hm⟩ : ∃ m, qks.length = m := ⟨_, rfl⟩
      rw [hm] at x2 hq8
      replace hm := hid hm
      replace hKA := hid hKA
      replace hB3 := hid hB3
      replace hB2 := hid hB2
      have d3 : decide (r ≤ qfl) = true := decide_eq_true h3
      replace h3 := hid h3
      go_wp2
      go_ret2
      exact done_none 2 w w4 B3
    · have d3 : decide (r ≤ q.fl) = false := decide_eq_false h3
      rw [d3, if_neg (by simp)] at hd0
      replace h3 := hid h3
      obtain ⟨p, hp⟩ : ∃ p, p = (placeP r (q.ks.map KV.num)).1 := ⟨_, rfl⟩
      have hple := place_le r (q.ks.map KV.num)
      rw [List.length_map, ← hp] at hple
      cases hkk : (placeP r (q.ks.map KV.num)).2 with
      | true =>
        have hp2 : placeP r (q.ks.map KV.num) = (p, true) := by rw [hp, ← hkk]
        rw [hkk, if_pos rfl] at hd0
        rw [hd0]
        replace hd0 := hid hd0
        replace hkk := hid hkk
        replace hp := hid hp
        replace hp2 := hid hp2
        go_enter Try.func9, Try.ntmps9
        go_wp2_with fail
        refine (right_any a n c lo L _ hL.out h hn).mono ?_
        rintro e w2 ⟨rfl, hb2⟩
        rw [hr.out]
        have hB2 := h.below hb2
        go_wp2_with fail
        refine (place_c a n c lo cl L _ hL.out hB2 (by omega)).mono ?_
        rintro e w3 ⟨rfl, hb3⟩
        rw [hpp.out]
        have B3 := bnext hb2 hb3
        have hB3 := hB2.below hb3
        go_wp2_with fail
        refine (isnum_any r _).mono ?_
        rintro e w4 ⟨rfl, rfl⟩
        rw [h2.out]
        obtain ⟨b, o, e⟩ := hB3.place (by intro e; rw [e] at hil; simp at hil)
        subst e
        obtain ⟨x0, x1, x2⟩ := hB3.one i hil
        have hKA := hB3.kept _ (List.getElem_mem hil)
        rw [← hq.out] at x0 x1 x2 hKA
        obtain ⟨qid, qfl, qa, qc, qks⟩ := q
        simp only at x0 x1 x2 hKA hq8 d3 hp2 hple
        obtain ⟨m, hm⟩ : ∃ m, qks.length = m := ⟨_, rfl⟩
        rw [hm] at x2 hq8 hple
        replace hm := hid hm
        replace hKA := hid hKA
        replace hB3 := hid hB3
        replace hB2 := hid hB2
        have hK4 := hKA.out
        go_wp2_with fail
        refine (place_k qa m qc lo r qks _ hm.out hK4 (by omega)).mono ?_
        rintro e w5 ⟨rfl, hb5⟩
        rw [hp2.out]
        have B5 := bnext B3 hb5
        replace hK4 := hid hK4
        go_wp2
        go_ret2
        exact done_none 2 w w5 B5
      | false =>
        have hp2 : placeP r (q.ks.map KV.num) = (p, false) := by rw [hp, ← hkk]
        rw [hkk, if_neg (by simp)] at hd0
        replace hkk := hid hkk
        rw [← hp] at hd0
        replace hp := hid hp
        replace hp2 := hid hp2
        by_cases h4 : 65536 < reply.length
        · rw [if_pos h4] at hd0
          rw [hd0]
          have d4 : decide ((65536 : Int) < (rl : Int)) = true := by rw [hrl.out] at h4; simp; omega
          replace hd0 := hid hd0
          replace h4 := hid h4
          go_enter Try.func9, Try.ntmps9
          go_wp2_with fail
          refine (right_any a n c lo L _ hL.out h hn).mono ?_
          rintro e w2 ⟨rfl, hb2⟩
          rw [hr.out]
          have hB2 := h.below hb2
          go_wp2_with fail
          refine (place_c a n c lo cl L _ hL.out hB2 (by omega)).mono ?_
          rintro e w3 ⟨rfl, hb3⟩
          rw [hpp.out]
          have B3 := bnext hb2 hb3
          have hB3 := hB2.below hb3
          go_wp2_with fail
          refine (isnum_any r _).mono ?_
          rintro e w4 ⟨rfl, rfl⟩
          rw [h2.out]
          obtain ⟨b, o, e⟩ := hB3.place (by intro e; rw [e] at hil; simp at hil)
          subst e
          obtain ⟨x0, x1, x2⟩ := hB3.one i hil
          have hKA := hB3.kept _ (List.getElem_mem hil)
          rw [← hq.out] at x0 x1 x2 hKA
          obtain ⟨qid, qfl, qa, qc, qks⟩ := q
          simp only at x0 x1 x2 hKA hq8 d3 hp2 hple
          obtain ⟨m, hm⟩ : ∃ m, qks.length = m := ⟨_, rfl⟩
          rw [hm] at x2 hq8 hple
          replace hm := hid hm
          replace hKA := hid hKA
          replace hB3 := hid hB3
          replace hB2 := hid hB2
          have hK4 := hKA.out
          go_wp2_with fail
          refine (place_k qa m qc lo r qks _ hm.out hK4 (by omega)).mono ?_
          rintro e w5 ⟨rfl, hb5⟩
          rw [hp2.out]
          have B5 := bnext B3 hb5
          replace hK4 := hid hK4
          go_wp2
          go_ret2
          exact done_none 3 w w5 B5
        · rw [if_neg h4] at hd0
          have d4 : decide ((65536 : Int) < (rl : Int)) = false := by rw [hrl.out] at h4; simp; omega
          have hrl64 : rl ≤ 65536 := by rw [hrl.out] at h4; omega
          replace h4 := hid h4
          by_cases h5 : q.ks.length = 8
          · rw [if_pos h5] at hd0
            rw [hd0]
            replace hd0 := hid hd0
            replace h5 := hid h5
            go_enter Try.func9, Try.ntmps9
            go_wp2_with fail
            refine (right_any a n c lo L _ hL.out h hn).mono ?_
            rintro e w2 ⟨rfl, hb2⟩
            rw [hr.out]
            have hB2 := h.below hb2
            go_wp2_with fail
            refine (place_c a n c lo cl L _ hL.out hB2 (by omega)).mono ?_
            rintro e w3 ⟨rfl, hb3⟩
            rw [hpp.out]
            have B3 := bnext hb2 hb3
            have hB3 := hB2.below hb3
            go_wp2_with fail
            refine (isnum_any r _).mono ?_
            rintro e w4 ⟨rfl, rfl⟩
            rw [h2.out]
            obtain ⟨b, o, e⟩ := hB3.place (by intro e; rw [e] at hil; simp at hil)
            subst e
            obtain ⟨x0, x1, x2⟩ := hB3.one i hil
            have hKA := hB3.kept _ (List.getElem_mem hil)
            rw [← hq.out] at x0 x1 x2 hKA
            obtain ⟨qid, qfl, qa, qc, qks⟩ := q
            simp only at x0 x1 x2 hKA hq8 d3 hp2 hple h5
            obtain ⟨m, hm⟩ : ∃ m, qks.length = m := ⟨_, rfl⟩
            rw [hm] at x2 hq8 hple h5
            replace hm := hid hm
            replace hKA := hid hKA
            replace hB3 := hid hB3
            replace hB2 := hid hB2
            have hK4 := hKA.out
            go_wp2_with fail
            refine (place_k qa m qc lo r qks _ hm.out hK4 (by omega)).mono ?_
            rintro e w5 ⟨rfl, hb5⟩
            rw [hp2.out]
            have B5 := bnext B3 hb5
            have z2 : w5.cell? ⟨b, o + i * 3 + 2, none⟩ = some (.slice qa m qc) := by rw [hb5.cell (p := ⟨b, o + i * 3 + 2, none⟩) (World.block_lt_of_cell? _ _ x2)]; exact x2
            have h5' := h5.out
            subst h5'
            replace hK4 := hid hK4
            go_wp2
            go_ret2
            exact done_none 5 w w5 B5
          · rw [if_neg h5] at hd0
            rw [hd0]
            exact done_ok a n c lo L cl r ra rl rc reply w hL.out h hrl.out hrs hat hr.out i p hil hpp.out q hq.out h2.out d3 hp2.out hple hrl64 h5

theorem done_any (a : Option Addr) (n c lo : Nat) (L : List CV) (cl r : Int) (ra : Option Addr) (rl rc : Nat) (reply : List UInt8) (w : World) (hL : L.length = n) (h : LAt w lo a L) (hrl : reply.length = rl) (hrs : rl ≤ 140737488355328) (hat : At w ra reply) (hn : n ≤ 9000000000000000000) :
    Calls Try.prog 9 #[.slice a n c, .int .i64 cl, .int .i64 r, .slice ra rl rc] w (DonePost (doneP (L.map CV.flat) cl r reply) w) := by
  cases hr : rightP (L.map CV.flat) with
  | false => exact done_right a n c lo L cl r ra rl rc reply w hL h hn hr
  | true =>
    cases hk : (placeP cl (L.map CV.id)).2 with
    | false => exact done_unknown a n c lo L cl r ra rl rc reply w hL h hr hk
    | true => exact done_known a n c lo L cl r ra rl rc reply w hL h hrl hrs hat hr hk

end Go.Proofs.Ythjggjjocfbjcaa
