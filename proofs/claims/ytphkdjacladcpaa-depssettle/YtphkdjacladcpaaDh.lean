/- Holds and Never, on both sides. -/
import Derived.Test.YtphkdjacladcpaaDg
namespace Go.Proofs.Ytphkdjacladcpaa
open Go.RowKit
set_option linter.unusedVariables false
set_option linter.unusedSimpArgs false

theorem any_yes {D : List Dp} {P : Dp → Bool} {m : Nat} (hm : m < D.length) (h : P (dpAt D m) = true) : D.any P = true := by
  rw [List.any_eq_true]
  exact ⟨D[m], List.getElem_mem hm, by rw [dpAt_eq hm]; exact h⟩
theorem any_no {D : List Dp} {P : Dp → Bool} (h : ∀ m, m < D.length → P (dpAt D m) = false) : D.any P = false := by
  rw [List.any_eq_false]
  intro x hx
  obtain ⟨i, hi, rfl⟩ := List.getElem_of_mem hx
  have := h i hi
  rw [← dpAt_eq hi] at this
  simp [this]

def ClP (f g : Nat) (P : Dp → Bool) (w : World) : Prop := ∀ (d : Dp) (wr : World), Below w.heap.size w wr → Calls Try.prog f #[.agg (dc2 d).toArray, ptr g] wr fun e w' => e = .returned (.bool (P d)) ∧ Below wr.heap.size wr w'

set_option maxRecDepth 100000 in
set_option maxHeartbeats 1000000 in
theorem dindex24 (g : Nat) (P : Dp → Bool) (a : Option Addr) (k c : Nat) (D : List Dp) (w : World) (hn : D.length = k) (hl : k ≤ 4611686018427387904) (hat : DAt w a D) (hcl : ClP 24 g P w) :
    Calls Try.prog 40 #[.slice a k c, .func (.func 24) #[] #[ptr g]] w fun e w' => (∃ i : Int, e = .returned (.int .i64 i) ∧ decide (0 ≤ i) = D.any P) ∧ Below w.heap.size w w' := by
  replace hn := hid hn
  replace hat := hid hat
  replace hcl := hid hcl
  go_enter Try.func40, Try.ntmps40
  go_wp2_with fail
  go_loopw [8] (fun i wr => ∃ j : Nat, j ≤ k ∧ i = .int .i64 (j : Int) ∧ Hid (∀ m, m < j → P (dpAt D m) = false) ∧ Below w.heap.size w wr) (fun i _ => k - (intOf i).toNat)
  case atStart => exact ⟨0, Nat.zero_le _, rfl, hid (fun i h => by omega), Below.refl _ _⟩
  case round =>
    obtain ⟨j, hj, rfl, hok, hb⟩ := hrel
    by_cases hlt : j < k
    · have hjL : j < D.length := by rw [hn.out]; exact hlt
      obtain ⟨b, o, e⟩ := hat.out.place (by omega)
      subst e
      have hcj := hid (DAt.range (hat.out.below hb) hjL)
      have kS := hcl.out (dpAt D j) wr hb
      have hnx : P (dpAt D j) = false → ∀ m, m < j + 1 → P (dpAt D m) = false := fun h m hm => by
        rcases Nat.lt_or_ge m j with h1 | h1
        · exact hok.out m h1
        · obtain rfl : m = j := by omega
          exact h
      have hy : P (dpAt D j) = true → D.any P = true := any_yes hjL
      generalize dpAt D j = X at *
      cases hP : P X with
      | true =>
        rw [hP] at kS
        have hy2 := hid (hy hP)
        clear hy hnx
        replace hP := hid hP
        go_wp2_with (refine wpList_load_mid rfl 51 (.tmp 14) rfl b (o + j * 2) rfl (dc2 X) _ hcj.out Try.underlying51 rfl (by kernel_rfl) ?_)
        refine kS.mono ?_
        rintro e w1 ⟨rfl, hb1⟩
        go_wp2_with fail
        go_ret
        exact ⟨⟨(j : Int), rfl, by rw [hy2.out]; exact decide_eq_true (by omega)⟩, bnext hb hb1⟩
      | false =>
        rw [hP] at kS
        have hnx2 := hid (hnx hP)
        clear hy hnx
        replace hP := hid hP
        go_wp2_with (refine wpList_load_mid rfl 51 (.tmp 14) rfl b (o + j * 2) rfl (dc2 X) _ hcj.out Try.underlying51 rfl (by kernel_rfl) ?_)
        refine kS.mono ?_
        rintro e w1 ⟨rfl, hb1⟩
        go_wp2_with fail
        go_roundw
        case rel => exact ⟨j + 1, by omega, by go_num, hnx2, bnext hb hb1⟩
        case measure => simp [intOf]; omega
    · have hje : j = k := by omega
      subst hje
      go_wp2
      go_ret
      exact ⟨⟨-1, rfl, by rw [any_no (fun m hm => hok.out m (by rw [← hn.out]; exact hm))]; rfl⟩, hb⟩

set_option maxRecDepth 100000 in
theorem dcontf24 (g : Nat) (P : Dp → Bool) (a : Option Addr) (k c : Nat) (D : List Dp) (w : World) (hn : D.length = k) (hl : k ≤ 4611686018427387904) (hat : DAt w a D) (hcl : ClP 24 g P w) :
    Calls Try.prog 23 #[.slice a k c, .func (.func 24) #[] #[ptr g]] w fun e w' => e = .returned (.bool (D.any P)) ∧ Below w.heap.size w w' := by
  have kI := dindex24 g P a k c D w hn hl hat hcl
  replace hn := hid hn
  replace hat := hid hat
  replace hcl := hid hcl
  go_enter Try.func23, Try.ntmps23
  go_wp2_with fail
  refine kI.mono ?_
  rintro e w1 ⟨⟨i, rfl, hi⟩, hb1⟩
  replace hi := hid hi
  go_wp2_with fail
  go_ret
  exact ⟨ret_bool hi.out, hb1⟩

set_option maxRecDepth 100000 in
set_option maxHeartbeats 1000000 in
theorem dindex27 (g : Nat) (P : Dp → Bool) (a : Option Addr) (k c : Nat) (D : List Dp) (w : World) (hn : D.length = k) (hl : k ≤ 4611686018427387904) (hat : DAt w a D) (hcl : ClP 27 g P w) :
    Calls Try.prog 40 #[.slice a k c, .func (.func 27) #[] #[ptr g]] w fun e w' => (∃ i : Int, e = .returned (.int .i64 i) ∧ decide (0 ≤ i) = D.any P) ∧ Below w.heap.size w w' := by
  replace hn := hid hn
  replace hat := hid hat
  replace hcl := hid hcl
  go_enter Try.func40, Try.ntmps40
  go_wp2_with fail
  go_loopw [8] (fun i wr => ∃ j : Nat, j ≤ k ∧ i = .int .i64 (j : Int) ∧ Hid (∀ m, m < j → P (dpAt D m) = false) ∧ Below w.heap.size w wr) (fun i _ => k - (intOf i).toNat)
  case atStart => exact ⟨0, Nat.zero_le _, rfl, hid (fun i h => by omega), Below.refl _ _⟩
  case round =>
    obtain ⟨j, hj, rfl, hok, hb⟩ := hrel
    by_cases hlt : j < k
    · have hjL : j < D.length := by rw [hn.out]; exact hlt
      obtain ⟨b, o, e⟩ := hat.out.place (by omega)
      subst e
      have hcj := hid (DAt.range (hat.out.below hb) hjL)
      have kS := hcl.out (dpAt D j) wr hb
      have hnx : P (dpAt D j) = false → ∀ m, m < j + 1 → P (dpAt D m) = false := fun h m hm => by
        rcases Nat.lt_or_ge m j with h1 | h1
        · exact hok.out m h1
        · obtain rfl : m = j := by omega
          exact h
      have hy : P (dpAt D j) = true → D.any P = true := any_yes hjL
      generalize dpAt D j = X at *
      cases hP : P X with
      | true =>
        rw [hP] at kS
        have hy2 := hid (hy hP)
        clear hy hnx
        replace hP := hid hP
        go_wp2_with (refine wpList_load_mid rfl 51 (.tmp 14) rfl b (o + j * 2) rfl (dc2 X) _ hcj.out Try.underlying51 rfl (by kernel_rfl) ?_)
        refine kS.mono ?_
        rintro e w1 ⟨rfl, hb1⟩
        go_wp2_with fail
        go_ret
        exact ⟨⟨(j : Int), rfl, by rw [hy2.out]; exact decide_eq_true (by omega)⟩, bnext hb hb1⟩
      | false =>
        rw [hP] at kS
        have hnx2 := hid (hnx hP)
        clear hy hnx
        replace hP := hid hP
        go_wp2_with (refine wpList_load_mid rfl 51 (.tmp 14) rfl b (o + j * 2) rfl (dc2 X) _ hcj.out Try.underlying51 rfl (by kernel_rfl) ?_)
        refine kS.mono ?_
        rintro e w1 ⟨rfl, hb1⟩
        go_wp2_with fail
        go_roundw
        case rel => exact ⟨j + 1, by omega, by go_num, hnx2, bnext hb hb1⟩
        case measure => simp [intOf]; omega
    · have hje : j = k := by omega
      subst hje
      go_wp2
      go_ret
      exact ⟨⟨-1, rfl, by rw [any_no (fun m hm => hok.out m (by rw [← hn.out]; exact hm))]; rfl⟩, hb⟩

set_option maxRecDepth 100000 in
theorem dcontf27 (g : Nat) (P : Dp → Bool) (a : Option Addr) (k c : Nat) (D : List Dp) (w : World) (hn : D.length = k) (hl : k ≤ 4611686018427387904) (hat : DAt w a D) (hcl : ClP 27 g P w) :
    Calls Try.prog 23 #[.slice a k c, .func (.func 27) #[] #[ptr g]] w fun e w' => e = .returned (.bool (D.any P)) ∧ Below w.heap.size w w' := by
  have kI := dindex27 g P a k c D w hn hl hat hcl
  replace hn := hid hn
  replace hat := hid hat
  replace hcl := hid hcl
  go_enter Try.func23, Try.ntmps23
  go_wp2_with fail
  refine kI.mono ?_
  rintro e w1 ⟨⟨i, rfl, hi⟩, hb1⟩
  replace hi := hid hi
  go_wp2_with fail
  go_ret
  exact ⟨ret_bool hi.out, hb1⟩

def holdsP (D : List Dp) (L : List Job) : Bool := !D.any (heldB L)
def neverP (D : List Dp) (L : List Job) : Bool := D.any (lostB L)

set_option maxRecDepth 100000 in
theorem holds_any (a : Option Addr) (k c : Nat) (D : List Dp) (a' : Option Addr) (k' c' : Nat) (L : List Job) (w : World) (hn : D.length = k) (hl : k ≤ 4611686018427387904) (hat : DAt w a D) (hn' : L.length = k') (hl' : k' ≤ 4611686018427387904) (hat' : JAt w a' L) :
    Calls Try.prog 11 #[.slice a k c, .slice a' k' c'] w fun e w' => e = .returned (.bool (holdsP D L)) ∧ Below w.heap.size w w' := by
  have bl := below_lit w (.cells #[.slice a' k' c'] 23)
  have hc : (w.alloc (.cells #[.slice a' k' c'] 23)).cell? ⟨w.heap.size, 0, none⟩ = some (.slice a' k' c') := cell_new _ _ _
  have kI := dcontf24 w.heap.size (heldB L) a k c D _ hn hl (hat.below bl) (fun d wr hb => held_cl d w.heap.size a' k' c' L wr hn' hl' ((hat'.below bl).below hb) (stay hb hc))
  replace hn := hid hn
  replace hat := hid hat
  replace hn' := hid hn'
  replace hat' := hid hat'
  replace hc := hid hc
  go_enter Try.func11, Try.ntmps11
  go_wp2_with fail
  refine kI.mono ?_
  rintro e w1 ⟨rfl, hb1⟩
  go_wp2_with fail
  go_ret
  exact ⟨rfl, bnext bl hb1⟩

set_option maxRecDepth 100000 in
theorem never_any (a : Option Addr) (k c : Nat) (D : List Dp) (a' : Option Addr) (k' c' : Nat) (L : List Job) (w : World) (hn : D.length = k) (hl : k ≤ 4611686018427387904) (hat : DAt w a D) (hn' : L.length = k') (hl' : k' ≤ 4611686018427387904) (hat' : JAt w a' L) :
    Calls Try.prog 13 #[.slice a k c, .slice a' k' c'] w fun e w' => e = .returned (.bool (neverP D L)) ∧ Below w.heap.size w w' := by
  have bl := below_lit w (.cells #[.slice a' k' c'] 23)
  have hc : (w.alloc (.cells #[.slice a' k' c'] 23)).cell? ⟨w.heap.size, 0, none⟩ = some (.slice a' k' c') := cell_new _ _ _
  have kI := dcontf27 w.heap.size (lostB L) a k c D _ hn hl (hat.below bl) (fun d wr hb => lost_cl d w.heap.size a' k' c' L wr hn' hl' ((hat'.below bl).below hb) (stay hb hc))
  replace hn := hid hn
  replace hat := hid hat
  replace hn' := hid hn'
  replace hat' := hid hat'
  replace hc := hid hc
  go_enter Try.func13, Try.ntmps13
  go_wp2_with fail
  refine kI.mono ?_
  rintro e w1 ⟨rfl, hb1⟩
  go_wp2_with fail
  go_ret
  exact ⟨rfl, bnext bl hb1⟩

set_option maxRecDepth 100000 in
set_option maxHeartbeats 1000000 in
theorem rholds_any (a : Option Addr) (k c : Nat) (D : List Dp) (a' : Option Addr) (k' c' : Nat) (L : List Job) (w : World) (hn : D.length = k) (hl : k ≤ 4611686018427387904) (hat : DAt w a D) (hn' : L.length = k') (hl' : k' ≤ 4611686018427387904) (hat' : JAt w a' L) :
    Calls Try.prog 12 #[.slice a k c, .slice a' k' c'] w fun e w' => e = .returned (.bool (holdsP D L)) ∧ Below w.heap.size w w' := by
  replace hn := hid hn
  replace hat := hid hat
  replace hn' := hid hn'
  replace hat' := hid hat'
  go_enter Try.func12, Try.ntmps12
  go_wp2_with fail
  go_loopw [5] (fun i wr => ∃ j : Nat, j ≤ k ∧ i = .int .i64 (j : Int) ∧ Hid (∀ m, m < j → heldB L (dpAt D m) = false) ∧ Below w.heap.size w wr) (fun i _ => k - (intOf i).toNat)
  case atStart => exact ⟨0, Nat.zero_le _, rfl, hid (fun i h => by omega), Below.refl _ _⟩
  case round =>
    obtain ⟨j, hj, rfl, hok, hb⟩ := hrel
    by_cases hlt : j < k
    · have hjL : j < D.length := by rw [hn.out]; exact hlt
      obtain ⟨b, o, e⟩ := hat.out.place (by omega)
      subst e
      have hcj := hid (DAt.range (hat.out.below hb) hjL)
      have kS := settled_any (dpAt D j) a' k' c' L wr hn'.out hl' (hat'.out.below hb)
      have hnx : heldB L (dpAt D j) = false → ∀ m, m < j + 1 → heldB L (dpAt D m) = false := fun h m hm => by
        rcases Nat.lt_or_ge m j with h1 | h1
        · exact hok.out m h1
        · obtain rfl : m = j := by omega
          exact h
      have hy : heldB L (dpAt D j) = true → D.any (heldB L) = true := any_yes hjL
      generalize dpAt D j = X at *
      obtain ⟨F, hF⟩ : ∃ F, F = fate X L := ⟨_, rfl⟩
      rw [← hF] at kS
      by_cases hP : F = 1
      · have dP : (F != 1) = false := by simpa using hP
        have hnx2 := hid (hnx (by unfold heldB; rw [← hF]; exact dP))
        clear hy hnx
        replace hF := hid hF
        replace hP := hid hP
        go_wp2_with (refine wpList_load_mid rfl 51 (.tmp 14) rfl b (o + j * 2) rfl (dc2 X) _ hcj.out Try.underlying51 rfl (by kernel_rfl) ?_)
        refine kS.mono ?_
        rintro e w1 ⟨rfl, hb1⟩
        go_wp2_with fail
        go_roundw
        case rel => exact ⟨j + 1, by omega, by go_num, hnx2, bnext hb hb1⟩
        case measure => simp [intOf]; omega
      · have dP : (F != 1) = true := by simpa using hP
        have hy2 := hid (hy (by unfold heldB; rw [← hF]; exact dP))
        clear hy hnx
        replace hF := hid hF
        replace hP := hid hP
        go_wp2_with (refine wpList_load_mid rfl 51 (.tmp 14) rfl b (o + j * 2) rfl (dc2 X) _ hcj.out Try.underlying51 rfl (by kernel_rfl) ?_)
        refine kS.mono ?_
        rintro e w1 ⟨rfl, hb1⟩
        go_wp2_with fail
        go_ret
        exact ⟨ret_bool (by unfold holdsP; rw [hy2.out]; rfl), bnext hb hb1⟩
    · have hje : j = k := by omega
      subst hje
      go_wp2
      go_ret
      exact ⟨ret_bool (by unfold holdsP; rw [any_no (fun m hm => hok.out m (by rw [← hn.out]; exact hm))]; rfl), hb⟩

set_option maxRecDepth 100000 in
set_option maxHeartbeats 1000000 in
theorem rnever_any (a : Option Addr) (k c : Nat) (D : List Dp) (a' : Option Addr) (k' c' : Nat) (L : List Job) (w : World) (hn : D.length = k) (hl : k ≤ 4611686018427387904) (hat : DAt w a D) (hn' : L.length = k') (hl' : k' ≤ 4611686018427387904) (hat' : JAt w a' L) :
    Calls Try.prog 14 #[.slice a k c, .slice a' k' c'] w fun e w' => e = .returned (.bool (neverP D L)) ∧ Below w.heap.size w w' := by
  replace hn := hid hn
  replace hat := hid hat
  replace hn' := hid hn'
  replace hat' := hid hat'
  go_enter Try.func14, Try.ntmps14
  go_wp2_with fail
  go_loopw [5] (fun i wr => ∃ j : Nat, j ≤ k ∧ i = .int .i64 (j : Int) ∧ Hid (∀ m, m < j → lostB L (dpAt D m) = false) ∧ Below w.heap.size w wr) (fun i _ => k - (intOf i).toNat)
  case atStart => exact ⟨0, Nat.zero_le _, rfl, hid (fun i h => by omega), Below.refl _ _⟩
  case round =>
    obtain ⟨j, hj, rfl, hok, hb⟩ := hrel
    by_cases hlt : j < k
    · have hjL : j < D.length := by rw [hn.out]; exact hlt
      obtain ⟨b, o, e⟩ := hat.out.place (by omega)
      subst e
      have hcj := hid (DAt.range (hat.out.below hb) hjL)
      have kS := settled_any (dpAt D j) a' k' c' L wr hn'.out hl' (hat'.out.below hb)
      have hnx : lostB L (dpAt D j) = false → ∀ m, m < j + 1 → lostB L (dpAt D m) = false := fun h m hm => by
        rcases Nat.lt_or_ge m j with h1 | h1
        · exact hok.out m h1
        · obtain rfl : m = j := by omega
          exact h
      have hy : lostB L (dpAt D j) = true → D.any (lostB L) = true := any_yes hjL
      generalize dpAt D j = X at *
      obtain ⟨F, hF⟩ : ∃ F, F = fate X L := ⟨_, rfl⟩
      rw [← hF] at kS
      by_cases hP : F = 2
      · have dP : (F == 2) = true := by simpa using hP
        have hy2 := hid (hy (by unfold lostB; rw [← hF]; exact dP))
        clear hy hnx
        replace hF := hid hF
        replace hP := hid hP
        go_wp2_with (refine wpList_load_mid rfl 51 (.tmp 14) rfl b (o + j * 2) rfl (dc2 X) _ hcj.out Try.underlying51 rfl (by kernel_rfl) ?_)
        refine kS.mono ?_
        rintro e w1 ⟨rfl, hb1⟩
        go_wp2_with fail
        go_ret
        exact ⟨ret_bool (by unfold neverP; rw [hy2.out]), bnext hb hb1⟩
      · have dP : (F == 2) = false := by simpa using hP
        have hnx2 := hid (hnx (by unfold lostB; rw [← hF]; exact dP))
        clear hy hnx
        replace hF := hid hF
        replace hP := hid hP
        go_wp2_with (refine wpList_load_mid rfl 51 (.tmp 14) rfl b (o + j * 2) rfl (dc2 X) _ hcj.out Try.underlying51 rfl (by kernel_rfl) ?_)
        refine kS.mono ?_
        rintro e w1 ⟨rfl, hb1⟩
        go_wp2_with fail
        go_roundw
        case rel => exact ⟨j + 1, by omega, by go_num, hnx2, bnext hb hb1⟩
        case measure => simp [intOf]; omega
    · have hje : j = k := by omega
      subst hje
      go_wp2
      go_ret
      exact ⟨ret_bool (by unfold neverP; rw [any_no (fun m hm => hok.out m (by rw [← hn.out]; exact hm))]), hb⟩

end Go.Proofs.Ytphkdjacladcpaa
