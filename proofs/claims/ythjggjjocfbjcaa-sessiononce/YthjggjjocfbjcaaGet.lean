/- The inner calls that only read: isNumber, the numbers of clients and requests, riseWithin, placeOf. -/
import Derived.Test.YthjggjjocfbjcaaMem
namespace Go.Proofs.Ythjggjjocfbjcaa
open Go.RowKit

theorem hid {p : Prop} (h : p) : Hid p := h

theorem isnum_any (x : Int) (w : World) : Calls Try.prog 34 #[.int .i64 x] w fun e w' => e = .returned (.bool (numP x)) ∧ w' = w := by
  by_cases h : (1 : Int) ≤ x
  · have h1 : decide ((1 : Int) ≤ x) = true := by simpa using h
    go_enter Try.func34, Try.ntmps34
    go_wp2
    go_ret
    exact ⟨ret_bool (by unfold numP; rw [h1]; rfl), rfl⟩
  · have h1 : decide ((1 : Int) ≤ x) = false := by simpa using h
    go_enter Try.func34, Try.ntmps34
    go_wp2
    go_ret
    exact ⟨ret_bool (by unfold numP; rw [h1]; rfl), rfl⟩

theorem idof_any (x y : Int) (s : Value) (w : World) : Calls Try.prog 36 #[.agg #[.int .i64 x, .int .i64 y, s]] w fun e w' => e = .returned (.int .i64 x) ∧ Below w.heap.size w w' := by
  have b1 := below_lit w (.cells #[.int .i64 x, .int .i64 y, s] 34)
  go_enter Try.func36, Try.ntmps36
  go_wp2
  go_ret
  exact ⟨rfl, b1⟩

theorem kreq_any (x : Int) (s : Value) (w : World) : Calls Try.prog 43 #[.agg #[.int .i64 x, s]] w fun e w' => e = .returned (.int .i64 x) ∧ Below w.heap.size w w' := by
  have b1 := below_lit w (.cells #[.int .i64 x, s] 36)
  go_enter Try.func43, Try.ntmps43
  go_wp2
  go_ret
  exact ⟨rfl, b1⟩

theorem wreq_any (x : Int) (s : Value) (w : World) : Calls Try.prog 54 #[.agg #[.int .i64 x, s]] w fun e w' => e = .returned (.int .i64 x) ∧ Below w.heap.size w w' := by
  have b1 := below_lit w (.cells #[.int .i64 x, s] 69)
  go_enter Try.func54, Try.ntmps54
  go_wp2
  go_ret
  exact ⟨rfl, b1⟩

set_option maxRecDepth 100000 in
set_option maxHeartbeats 400000 in
theorem rise_c (a : Option Addr) (n c lo : Nat) (low high : Int) (L : List CV) (w : World) (hL : L.length = n) (h : LAt w lo a L) (hn : n ≤ 3000000000000) :
    Calls Try.prog 46 #[.slice a n c, .int .i64 low, .int .i64 high, .func (.func 36) #[] #[]] w fun e w' => e = .returned (.bool (riseB low high (L.map CV.id))) ∧ Below w.heap.size w w' := by
  replace hL := hid hL
  go_enter Try.func46, Try.ntmps46
  go_wp2_with fail
  go_loopw [1, 14] (fun l i wr => ∃ j : Nat, ∃ low' : Int, j ≤ n ∧ l = .int .i64 low' ∧ i = .int .i64 (j : Int) ∧ Hid (riseB low high (L.map CV.id) = riseB low' high ((L.map CV.id).drop j)) ∧ Below w.heap.size w wr) (fun _ i _ => n - (intOf i).toNat)
  case atStart => exact ⟨0, low, Nat.zero_le _, rfl, rfl, hid (by simp), Below.refl _ _⟩
  case round =>
    obtain ⟨j, low', hj, rfl, rfl, hre, hb⟩ := hrel
    by_cases hlt : j < n
    · have hjL : j < L.length := by rw [hL.out]; exact hlt
      obtain ⟨b, o, e⟩ := h.place (by intro e; rw [e] at hjL; simp at hjL)
      subst e
      have hr := h.below hb
      obtain ⟨x0, x1, x2⟩ := hr.one j hjL
      replace hr := hid hr
      have hd := rise_drop high (L.map CV.id) j (by simpa using hjL) low'
      rw [List.getElem_map] at hd
      replace hre := hid (hre.out.trans hd)
      generalize L[j].id = X at x0 hre
      clear hd
      generalize L[j].fl = Y at x1
      generalize L[j].a = ka at x2
      generalize L[j].ks.length = kn at x2
      generalize L[j].c = kc at x2
      have b2 := below_lit wr (.cells #[.int .i64 X, .int .i64 Y, .slice ka kn kc] 34)
      have bb := bnext hb b2
      go_wp2_with fail
      refine (idof_any X Y _ _).mono ?_
      rintro e w2 ⟨rfl, hb2⟩
      have bc := bnext bb hb2
      by_cases h1 : X ≤ low'
      · have d1 : decide (X ≤ low') = true := by simpa using h1
        have hfin := hid (hre.out.trans (show _ = false by rw [show decide (low' < X) = false by simp; omega]; rfl))
        replace hre := hid hre
        go_wp2
        go_ret
        exact ⟨ret_bool hfin.out.symm, bc⟩
      · have d1 : decide (X ≤ low') = false := by simpa using h1
        by_cases h2 : high < X
        · have d2 : decide (high < X) = true := by simpa using h2
          have hfin := hid (hre.out.trans (show _ = false by rw [show decide (X ≤ high) = false by simp; omega]; simp))
          replace hre := hid hre
          go_wp2
          go_ret
          exact ⟨ret_bool hfin.out.symm, bc⟩
        · have d2 : decide (high < X) = false := by simpa using h2
          have hfin := hid (hre.out.trans (show _ = riseB X high ((L.map CV.id).drop (j + 1)) by rw [show decide (low' < X) = true by simp; omega, show decide (X ≤ high) = true by simp; omega]; rfl))
          replace hre := hid hre
          go_wp2_with fail
          go_roundw
          case rel => exact ⟨j + 1, X, by omega, rfl, by go_num, hfin, bc⟩
          case measure => simp [intOf]; omega
    · obtain rfl : j = n := by omega
      have hfin := hid (hre.out.trans (show _ = true by rw [List.drop_eq_nil_of_le (by simp [hL.out])]; rfl))
      replace hre := hid hre
      go_wp2
      go_ret
      exact ⟨ret_bool hfin.out.symm, hb⟩

set_option maxRecDepth 100000 in
set_option maxHeartbeats 400000 in
theorem rise_k (a : Option Addr) (n c lo : Nat) (low high : Int) (L : List KV) (w : World) (hL : L.length = n) (h : KAt w lo a L) (hn : n ≤ 3000000000000) :
    Calls Try.prog 47 #[.slice a n c, .int .i64 low, .int .i64 high, .func (.func 43) #[] #[]] w fun e w' => e = .returned (.bool (riseB low high (L.map KV.num))) ∧ Below w.heap.size w w' := by
  replace hL := hid hL
  go_enter Try.func47, Try.ntmps47
  go_wp2_with fail
  go_loopw [1, 14] (fun l i wr => ∃ j : Nat, ∃ low' : Int, j ≤ n ∧ l = .int .i64 low' ∧ i = .int .i64 (j : Int) ∧ Hid (riseB low high (L.map KV.num) = riseB low' high ((L.map KV.num).drop j)) ∧ Below w.heap.size w wr) (fun _ i _ => n - (intOf i).toNat)
  case atStart => exact ⟨0, low, Nat.zero_le _, rfl, rfl, hid (by simp), Below.refl _ _⟩
  case round =>
    obtain ⟨j, low', hj, rfl, rfl, hre, hb⟩ := hrel
    by_cases hlt : j < n
    · have hjL : j < L.length := by rw [hL.out]; exact hlt
      obtain ⟨b, o, e⟩ := h.place (by intro e; rw [e] at hjL; simp at hjL)
      subst e
      have hr := h.below hb
      obtain ⟨x0, x1⟩ := hr.one j hjL
      replace hr := hid hr
      have hd := rise_drop high (L.map KV.num) j (by simpa using hjL) low'
      rw [List.getElem_map] at hd
      replace hre := hid (hre.out.trans hd)
      generalize L[j].num = X at x0 hre
      clear hd
      generalize L[j].a = ka at x1
      generalize L[j].body.length = kn at x1
      generalize L[j].c = kc at x1
      have b2 := below_lit wr (.cells #[.int .i64 X, .slice ka kn kc] 36)
      have bb := bnext hb b2
      go_wp2_with fail
      refine (kreq_any X _ _).mono ?_
      rintro e w2 ⟨rfl, hb2⟩
      have bc := bnext bb hb2
      by_cases h1 : X ≤ low'
      · have d1 : decide (X ≤ low') = true := by simpa using h1
        have hfin := hid (hre.out.trans (show _ = false by rw [show decide (low' < X) = false by simp; omega]; rfl))
        replace hre := hid hre
        go_wp2
        go_ret
        exact ⟨ret_bool hfin.out.symm, bc⟩
      · have d1 : decide (X ≤ low') = false := by simpa using h1
        by_cases h2 : high < X
        · have d2 : decide (high < X) = true := by simpa using h2
          have hfin := hid (hre.out.trans (show _ = false by rw [show decide (X ≤ high) = false by simp; omega]; simp))
          replace hre := hid hre
          go_wp2
          go_ret
          exact ⟨ret_bool hfin.out.symm, bc⟩
        · have d2 : decide (high < X) = false := by simpa using h2
          have hfin := hid (hre.out.trans (show _ = riseB X high ((L.map KV.num).drop (j + 1)) by rw [show decide (low' < X) = true by simp; omega, show decide (X ≤ high) = true by simp; omega]; rfl))
          replace hre := hid hre
          go_wp2_with fail
          go_roundw
          case rel => exact ⟨j + 1, X, by omega, rfl, by go_num, hfin, bc⟩
          case measure => simp [intOf]; omega
    · obtain rfl : j = n := by omega
      have hfin := hid (hre.out.trans (show _ = true by rw [List.drop_eq_nil_of_le (by simp [hL.out])]; rfl))
      replace hre := hid hre
      go_wp2
      go_ret
      exact ⟨ret_bool hfin.out.symm, hb⟩

set_option maxRecDepth 100000 in
set_option maxHeartbeats 400000 in
theorem rise_w (a : Option Addr) (n c lo : Nat) (low high : Int) (L : List KV) (w : World) (hL : L.length = n) (h : KAt w lo a L) (hn : n ≤ 3000000000000) :
    Calls Try.prog 53 #[.slice a n c, .int .i64 low, .int .i64 high, .func (.func 54) #[] #[]] w fun e w' => e = .returned (.bool (riseB low high (L.map KV.num))) ∧ Below w.heap.size w w' := by
  replace hL := hid hL
  go_enter Try.func53, Try.ntmps53
  go_wp2_with fail
  go_loopw [1, 14] (fun l i wr => ∃ j : Nat, ∃ low' : Int, j ≤ n ∧ l = .int .i64 low' ∧ i = .int .i64 (j : Int) ∧ Hid (riseB low high (L.map KV.num) = riseB low' high ((L.map KV.num).drop j)) ∧ Below w.heap.size w wr) (fun _ i _ => n - (intOf i).toNat)
  case atStart => exact ⟨0, low, Nat.zero_le _, rfl, rfl, hid (by simp), Below.refl _ _⟩
  case round =>
    obtain ⟨j, low', hj, rfl, rfl, hre, hb⟩ := hrel
    by_cases hlt : j < n
    · have hjL : j < L.length := by rw [hL.out]; exact hlt
      obtain ⟨b, o, e⟩ := h.place (by intro e; rw [e] at hjL; simp at hjL)
      subst e
      have hr := h.below hb
      obtain ⟨x0, x1⟩ := hr.one j hjL
      replace hr := hid hr
      have hd := rise_drop high (L.map KV.num) j (by simpa using hjL) low'
      rw [List.getElem_map] at hd
      replace hre := hid (hre.out.trans hd)
      generalize L[j].num = X at x0 hre
      clear hd
      generalize L[j].a = ka at x1
      generalize L[j].body.length = kn at x1
      generalize L[j].c = kc at x1
      have b2 := below_lit wr (.cells #[.int .i64 X, .slice ka kn kc] 69)
      have bb := bnext hb b2
      go_wp2_with fail
      refine (wreq_any X _ _).mono ?_
      rintro e w2 ⟨rfl, hb2⟩
      have bc := bnext bb hb2
      by_cases h1 : X ≤ low'
      · have d1 : decide (X ≤ low') = true := by simpa using h1
        have hfin := hid (hre.out.trans (show _ = false by rw [show decide (low' < X) = false by simp; omega]; rfl))
        replace hre := hid hre
        go_wp2
        go_ret
        exact ⟨ret_bool hfin.out.symm, bc⟩
      · have d1 : decide (X ≤ low') = false := by simpa using h1
        by_cases h2 : high < X
        · have d2 : decide (high < X) = true := by simpa using h2
          have hfin := hid (hre.out.trans (show _ = false by rw [show decide (X ≤ high) = false by simp; omega]; simp))
          replace hre := hid hre
          go_wp2
          go_ret
          exact ⟨ret_bool hfin.out.symm, bc⟩
        · have d2 : decide (high < X) = false := by simpa using h2
          have hfin := hid (hre.out.trans (show _ = riseB X high ((L.map KV.num).drop (j + 1)) by rw [show decide (low' < X) = true by simp; omega, show decide (X ≤ high) = true by simp; omega]; rfl))
          replace hre := hid hre
          go_wp2_with fail
          go_roundw
          case rel => exact ⟨j + 1, X, by omega, rfl, by go_num, hfin, bc⟩
          case measure => simp [intOf]; omega
    · obtain rfl : j = n := by omega
      have hfin := hid (hre.out.trans (show _ = true by rw [List.drop_eq_nil_of_le (by simp [hL.out])]; rfl))
      replace hre := hid hre
      go_wp2
      go_ret
      exact ⟨ret_bool hfin.out.symm, hb⟩

set_option maxRecDepth 100000 in
set_option maxHeartbeats 400000 in
theorem place_c (a : Option Addr) (n c lo : Nat) (x : Int) (L : List CV) (w : World) (hL : L.length = n) (h : LAt w lo a L) (hn : n ≤ 3000000000000) :
    Calls Try.prog 35 #[.slice a n c, .int .i64 x, .func (.func 36) #[] #[]] w fun e w' => e = .returned (.tuple #[.int .i64 ((placeP x (L.map CV.id)).1 : Int), .bool (placeP x (L.map CV.id)).2]) ∧ Below w.heap.size w w' := by
  replace hL := hid hL
  go_enter Try.func35, Try.ntmps35
  go_wp2_with fail
  go_loopw [13] (fun i wr => ∃ j : Nat, j ≤ n ∧ i = .int .i64 (j : Int) ∧ Hid (∀ i (h : i < j) (h2 : i < L.length), L[i].id < x) ∧ Below w.heap.size w wr) (fun i _ => n - (intOf i).toNat)
  case atStart => exact ⟨0, Nat.zero_le _, rfl, fun i h => absurd h (by omega), Below.refl _ _⟩
  case round =>
    obtain ⟨j, hj, rfl, hno, hb⟩ := hrel
    by_cases hlt : j < n
    · have hjL : j < L.length := by rw [hL.out]; exact hlt
      obtain ⟨b, o, e⟩ := h.place (by intro e; rw [e] at hjL; simp at hjL)
      subst e
      have hr := h.below hb
      obtain ⟨x0, x1, x2⟩ := hr.one j hjL
      replace hr := hid hr
      have hpl : Hid (x ≤ L[j].id → placeP x (L.map CV.id) = (j, L[j].id == x)) := hid fun hx => by
        have := place_at x (L.map CV.id) j (by simpa using hjL) (fun i hi => by rw [List.getElem_map]; exact hno.out i hi (by omega)) (by rw [List.getElem_map]; exact hx)
        rw [List.getElem_map] at this
        exact this
      have hno2 : Hid (L[j].id < x → ∀ i (h : i < j + 1) (h2 : i < L.length), L[i].id < x) := hid fun hx i hi h2 => by
          rcases Nat.lt_or_ge i j with h3 | h3
          · exact hno.out i h3 h2
          · obtain rfl : i = j := by omega
            exact hx
      generalize L[j].id = X at x0 hpl hno2
      generalize L[j].fl = Y at x1
      generalize L[j].a = ka at x2
      generalize L[j].ks.length = kn at x2
      generalize L[j].c = kc at x2
      have b2 := below_lit wr (.cells #[.int .i64 X, .int .i64 Y, .slice ka kn kc] 34)
      have bb := bnext hb b2
      go_wp2_with fail
      refine (idof_any X Y _ _).mono ?_
      rintro e w2 ⟨rfl, hb2⟩
      have bc := bnext bb hb2
      by_cases h1 : x ≤ X
      · have d1 : decide (x ≤ X) = true := by simpa using h1
        have hfin := hid (hpl.out h1)
        replace h1 := hid h1
        go_wp2
        go_ret2
        exact ⟨by rw [hfin.out]; rfl, bc⟩
      · have d1 : decide (x ≤ X) = false := by simpa using h1
        have hfin := hid (hno2.out (by omega))
        replace h1 := hid h1
        go_wp2_with fail
        go_roundw
        case rel => exact ⟨j + 1, by omega, by go_num, hfin, bc⟩
        case measure => simp [intOf]; omega
    · obtain rfl : j = n := by omega
      have hfin := hid (place_end x (L.map CV.id) (fun q hq => by
        obtain ⟨i, hi, rfl⟩ := List.getElem_of_mem hq
        rw [List.getElem_map]
        exact hno.out i (by rw [← hL.out]; simpa using hi) (by simpa using hi)))
      go_wp2
      go_ret2
      exact ⟨by rw [hfin.out, List.length_map, hL.out]; rfl, hb⟩

set_option maxRecDepth 100000 in
set_option maxHeartbeats 400000 in
theorem place_k (a : Option Addr) (n c lo : Nat) (x : Int) (L : List KV) (w : World) (hL : L.length = n) (h : KAt w lo a L) (hn : n ≤ 3000000000000) :
    Calls Try.prog 42 #[.slice a n c, .int .i64 x, .func (.func 43) #[] #[]] w fun e w' => e = .returned (.tuple #[.int .i64 ((placeP x (L.map KV.num)).1 : Int), .bool (placeP x (L.map KV.num)).2]) ∧ Below w.heap.size w w' := by
  replace hL := hid hL
  go_enter Try.func42, Try.ntmps42
  go_wp2_with fail
  go_loopw [13] (fun i wr => ∃ j : Nat, j ≤ n ∧ i = .int .i64 (j : Int) ∧ Hid (∀ i (h : i < j) (h2 : i < L.length), L[i].num < x) ∧ Below w.heap.size w wr) (fun i _ => n - (intOf i).toNat)
  case atStart => exact ⟨0, Nat.zero_le _, rfl, fun i h => absurd h (by omega), Below.refl _ _⟩
  case round =>
    obtain ⟨j, hj, rfl, hno, hb⟩ := hrel
    by_cases hlt : j < n
    · have hjL : j < L.length := by rw [hL.out]; exact hlt
      obtain ⟨b, o, e⟩ := h.place (by intro e; rw [e] at hjL; simp at hjL)
      subst e
      have hr := h.below hb
      obtain ⟨x0, x1⟩ := hr.one j hjL
      replace hr := hid hr
      have hpl : Hid (x ≤ L[j].num → placeP x (L.map KV.num) = (j, L[j].num == x)) := hid fun hx => by
        have := place_at x (L.map KV.num) j (by simpa using hjL) (fun i hi => by rw [List.getElem_map]; exact hno.out i hi (by omega)) (by rw [List.getElem_map]; exact hx)
        rw [List.getElem_map] at this
        exact this
      have hno2 : Hid (L[j].num < x → ∀ i (h : i < j + 1) (h2 : i < L.length), L[i].num < x) := hid fun hx i hi h2 => by
          rcases Nat.lt_or_ge i j with h3 | h3
          · exact hno.out i h3 h2
          · obtain rfl : i = j := by omega
            exact hx
      generalize L[j].num = X at x0 hpl hno2
      generalize L[j].a = ka at x1
      generalize L[j].body.length = kn at x1
      generalize L[j].c = kc at x1
      have b2 := below_lit wr (.cells #[.int .i64 X, .slice ka kn kc] 36)
      have bb := bnext hb b2
      go_wp2_with fail
      refine (kreq_any X _ _).mono ?_
      rintro e w2 ⟨rfl, hb2⟩
      have bc := bnext bb hb2
      by_cases h1 : x ≤ X
      · have d1 : decide (x ≤ X) = true := by simpa using h1
        have hfin := hid (hpl.out h1)
        replace h1 := hid h1
        go_wp2
        go_ret2
        exact ⟨by rw [hfin.out]; rfl, bc⟩
      · have d1 : decide (x ≤ X) = false := by simpa using h1
        have hfin := hid (hno2.out (by omega))
        replace h1 := hid h1
        go_wp2_with fail
        go_roundw
        case rel => exact ⟨j + 1, by omega, by go_num, hfin, bc⟩
        case measure => simp [intOf]; omega
    · obtain rfl : j = n := by omega
      have hfin := hid (place_end x (L.map KV.num) (fun q hq => by
        obtain ⟨i, hi, rfl⟩ := List.getElem_of_mem hq
        rw [List.getElem_map]
        exact hno.out i (by rw [← hL.out]; simpa using hi) (by simpa using hi)))
      go_wp2
      go_ret2
      exact ⟨by rw [hfin.out, List.length_map, hL.out]; rfl, hb⟩

end Go.Proofs.Ythjggjjocfbjcaa
