/- Which of the first 32 nodes a closure says yes of; those that are up; those that have cores enough. -/
import Derived.Test.YtledgaiekbpndaaRight
namespace Go.Proofs.Ytledgaiekbpndaa
open Go.RowKit

abbrev ptr (g : Nat) : Value := .pointer (some ⟨g, 0, none⟩)

theorem pow_mod {n : Nat} (hn : n < 32) : (2 : Int) ^ n % 4294967296 = 2 ^ n := by
  have h := pow_lt32 hn
  have h2 : ((2 ^ n : Nat) : Int) = 2 ^ n := by push_cast; rfl
  rw [← h2]
  generalize 2 ^ n = x at h
  omega

/-- The nodes below k of which b holds. -/
def gs (b : Nat → Bool) (k : Nat) : Nat := ofN ((List.range k).filter b)

theorem gs_zero (b : Nat → Bool) : gs b 0 = 0 := by simp [gs, ofN]
theorem gs_succ (b : Nat → Bool) (k : Nat) : gs b (k + 1) = if b k then gs b k ||| 2 ^ k else gs b k := by
  unfold gs
  rw [List.range_succ, List.filter_append]
  by_cases h : b k = true
  · rw [if_pos h, List.filter_cons_of_pos h, List.filter_nil, ofN_append]
  · rw [if_neg h, List.filter_cons_of_neg h, List.filter_nil, List.append_nil]
theorem gs_yes {b : Nat → Bool} {k : Nat} (h : b k = true) : gs b (k + 1) = gs b k ||| 2 ^ k := by rw [gs_succ, h]; rfl
theorem gs_no {b : Nat → Bool} {k : Nat} (h : b k = false) : gs b (k + 1) = gs b k := by rw [gs_succ, h]; rfl
theorem gs_lt (b : Nat → Bool) {k : Nat} (hk : k ≤ 32) : gs b k < 4294967296 := ofN_lt fun n hn => by
  have := (List.mem_filter.1 hn).1
  rw [List.mem_range] at this; omega
theorem gs_bit (b : Nat → Bool) (k i : Nat) : (gs b k).testBit i = (decide (i < k) && b i) := by
  unfold gs
  rw [ofN_bit]
  by_cases h : i < k
  · simp [h]
  · simp [h]

def upB (L : List Nod) (i : Nat) : Bool := (nodAt L i).2.1
def coB (L : List Nod) (c : Int) (i : Nat) : Bool := decide (c ≤ (nodAt L i).1)
def upP (L : List Nod) : Nat := gs (upB L) (min L.length 32)
def ableP (L : List Nod) (s : Nat) (c : Int) : Nat := s &&& gs (coB L c) (min L.length 32)

theorem upP_lt (L : List Nod) : upP L < 4294967296 := gs_lt _ (by omega)

theorem box1_any (c : Int) (u : Bool) (e : Int) (w : World) : Calls Try.prog 32 #[.agg #[.int .i64 c, .bool u, .int .i64 e]] w fun r w' => r = .returned (.bool u) ∧ Below w.heap.size w w' := by
  go_enter Try.func32, Try.ntmps32
  go_wp2
  go_ret
  exact ⟨rfl, below_lit _ _⟩

theorem box2_any (c : Int) (u : Bool) (e : Int) (g : Nat) (k : Int) (w : World) (hg : w.cell? ⟨g, 0, none⟩ = some (.int .i64 k)) : Calls Try.prog 34 #[.agg #[.int .i64 c, .bool u, .int .i64 e], ptr g] w fun r w' => r = .returned (.bool (decide (k ≤ c))) ∧ Below w.heap.size w w' := by
  have hlt := World.block_lt_of_cell? w _ hg
  have hg2 := stay (below_lit w (.cells #[.int .i64 c, .bool u, .int .i64 e] 38)) hg
  go_enter Try.func34, Try.ntmps34
  go_wp2
  go_ret
  exact ⟨rfl, below_lit _ _⟩

set_option maxRecDepth 100000 in
set_option maxHeartbeats 1000000 in
theorem gather32 (a : Option Addr) (n c : Nat) (L : List Nod) (b : Nat → Bool) (w : World) (hn : L.length = n) (hl : n ≤ 4611686018427387904) (hnc : n ≤ c) (hat : DAt w a L)
    (hstep : ∀ k w', k < min n 32 → Below w.heap.size w w' → Calls Try.prog 32 #[.agg #[.int .i64 (nodAt L k).1, .bool (nodAt L k).2.1, .int .i64 (nodAt L k).2.2]] w' fun e w2 => e = .returned (.bool (b k)) ∧ Below w'.heap.size w' w2) :
    Calls Try.prog 31 #[.slice a n c, .func (.func 32) #[] #[]] w fun e w' => e = .returned (.int .u32 (gs b (min n 32) : Int)) ∧ Below w.heap.size w w' := by
  rcases Nat.eq_zero_or_pos n with h0 | h0
  · subst h0
    replace hstep := hid hstep
    replace hat := hid hat
    replace hn := hid hn
    have hz : gs b (min 0 32) = 0 := gs_zero b
    rw [hz]
    clear hz
    go_enter Try.func31, Try.ntmps31
    go_wp2_with fail
    go_loopw [5, 14] (fun v i wr => v = .int .u32 0 ∧ i = .int .i64 0 ∧ wr = w) (fun _ _ _ => 0)
    case atStart => exact ⟨rfl, rfl, rfl⟩
    case round =>
      obtain ⟨rfl, rfl, rfl⟩ := hrel
      go_wp2
      go_ret
      exact ⟨rfl, Below.refl _ _⟩
  obtain ⟨ba, oa, e⟩ := hat.place (by omega)
  subst e
  by_cases h32 : (32 : Int) < (n : Int)
  · have hm : min n 32 = 32 := by omega
    rw [hm] at hstep ⊢
    clear hm
    have hc0 : ¬ c = 0 := by omega
    have hc32 : 32 ≤ c := by omega
    have hc32' : (32 : Int) ≤ (c : Int) := by omega
    replace hn := hid hn
    replace hat := hid hat
    replace hstep := hid hstep
    go_enter Try.func31, Try.ntmps31
    go_wp2_with fail
    go_loopw [5, 14] (fun v i wr => ∃ j : Nat, j ≤ 32 ∧ v = .int .u32 (gs b j : Int) ∧ i = .int .i64 (j : Int) ∧ Below w.heap.size w wr) (fun _ i _ => 32 - (intOf i).toNat)
    case atStart => exact ⟨0, Nat.zero_le _, by rw [gs_zero]; rfl, rfl, Below.refl _ _⟩
    case round =>
      obtain ⟨j, hj, rfl, rfl, hbw⟩ := hrel
      by_cases hlt : j < 32
      · have hj32 : j < 32 := by omega
        have hjL : j < L.length := by rw [hn.out]; omega
        obtain ⟨x0, x1, x2⟩ := (hat.out.below hbw).one hjL
        have hll := gs_lt b (k := j) (by omega)
        have ho := or_pow (gs b j) j hll hj32
        have bl := below_lit wr (.cells #[.int .i64 (nodAt L j).1, .bool (nodAt L j).2.1, .int .i64 (nodAt L j).2.2] 38)
        have kS := fun w' (h : Below wr.heap.size wr w') => hstep.out j w' hlt (bnext hbw h)
        cases hb : b j
        · rw [hb] at kS
          have hse := hid (gs_no hb)
          replace hb := hid hb
          generalize gs b j = S at *
          generalize nodAt L j = X at *
          obtain ⟨X0, X1, X2⟩ := X
          dsimp only at *
          go_wp2_with fail
          refine (kS _ bl).mono ?_
          rintro e w3 ⟨rfl, hb3⟩
          have B3 := bnext hbw (bnext bl hb3)
          go_wp2_with fail
          go_roundw
          case rel => exact ⟨j + 1, by omega, by rw [hse.out], by go_num, B3⟩
          case measure => simp [intOf]; omega
        · rw [hb] at kS
          have hse := hid (gs_yes hb)
          replace hb := hid hb
          generalize gs b j = S at *
          generalize nodAt L j = X at *
          obtain ⟨X0, X1, X2⟩ := X
          dsimp only at *
          go_wp2_with fail
          refine (kS _ bl).mono ?_
          rintro e w3 ⟨rfl, hb3⟩
          have B3 := bnext hbw (bnext bl hb3)
          go_wp2_with fail
          go_roundw
          case rel => exact ⟨j + 1, by omega, by rw [hse.out, pow_mod hj32, ho], by go_num, B3⟩
          case measure => simp [intOf]; omega
      · have hje : j = 32 := by omega
        subst hje
        go_wp2
        go_ret
        exact ⟨rfl, hbw⟩
  · have hm : min n 32 = n := by omega
    rw [hm] at hstep ⊢
    clear hm
    have h32' : (n : Int) ≤ 32 := by omega
    have hc0 : ¬ c = 0 := by omega
    have hnc' : (n : Int) ≤ (c : Int) := by omega
    replace hn := hid hn
    replace hat := hid hat
    replace hstep := hid hstep
    go_enter Try.func31, Try.ntmps31
    go_wp2_with fail
    go_loopw [5, 14] (fun v i wr => ∃ j : Nat, j ≤ n ∧ v = .int .u32 (gs b j : Int) ∧ i = .int .i64 (j : Int) ∧ Below w.heap.size w wr) (fun _ i _ => n - (intOf i).toNat)
    case atStart => exact ⟨0, Nat.zero_le _, by rw [gs_zero]; rfl, rfl, Below.refl _ _⟩
    case round =>
      obtain ⟨j, hj, rfl, rfl, hbw⟩ := hrel
      by_cases hlt : j < n
      · have hj32 : j < 32 := by omega
        have hjL : j < L.length := by rw [hn.out]; omega
        obtain ⟨x0, x1, x2⟩ := (hat.out.below hbw).one hjL
        have hll := gs_lt b (k := j) (by omega)
        have ho := or_pow (gs b j) j hll hj32
        have bl := below_lit wr (.cells #[.int .i64 (nodAt L j).1, .bool (nodAt L j).2.1, .int .i64 (nodAt L j).2.2] 38)
        have kS := fun w' (h : Below wr.heap.size wr w') => hstep.out j w' hlt (bnext hbw h)
        cases hb : b j
        · rw [hb] at kS
          have hse := hid (gs_no hb)
          replace hb := hid hb
          generalize gs b j = S at *
          generalize nodAt L j = X at *
          obtain ⟨X0, X1, X2⟩ := X
          dsimp only at *
          go_wp2_with fail
          refine (kS _ bl).mono ?_
          rintro e w3 ⟨rfl, hb3⟩
          have B3 := bnext hbw (bnext bl hb3)
          go_wp2_with fail
          go_roundw
          case rel => exact ⟨j + 1, by omega, by rw [hse.out], by go_num, B3⟩
          case measure => simp [intOf]; omega
        · rw [hb] at kS
          have hse := hid (gs_yes hb)
          replace hb := hid hb
          generalize gs b j = S at *
          generalize nodAt L j = X at *
          obtain ⟨X0, X1, X2⟩ := X
          dsimp only at *
          go_wp2_with fail
          refine (kS _ bl).mono ?_
          rintro e w3 ⟨rfl, hb3⟩
          have B3 := bnext hbw (bnext bl hb3)
          go_wp2_with fail
          go_roundw
          case rel => exact ⟨j + 1, by omega, by rw [hse.out, pow_mod hj32, ho], by go_num, B3⟩
          case measure => simp [intOf]; omega
      · have hje : j = n := by omega
        subst hje
        go_wp2
        go_ret
        exact ⟨rfl, hbw⟩

set_option maxRecDepth 100000 in
set_option maxHeartbeats 1000000 in
theorem gather34 (a : Option Addr) (n c : Nat) (L : List Nod) (b : Nat → Bool) (g0 : Nat) (w : World) (hn : L.length = n) (hl : n ≤ 4611686018427387904) (hnc : n ≤ c) (hat : DAt w a L)
    (hstep : ∀ k w', k < min n 32 → Below w.heap.size w w' → Calls Try.prog 34 #[.agg #[.int .i64 (nodAt L k).1, .bool (nodAt L k).2.1, .int .i64 (nodAt L k).2.2], ptr g0] w' fun e w2 => e = .returned (.bool (b k)) ∧ Below w'.heap.size w' w2) :
    Calls Try.prog 31 #[.slice a n c, .func (.func 34) #[] #[ptr g0]] w fun e w' => e = .returned (.int .u32 (gs b (min n 32) : Int)) ∧ Below w.heap.size w w' := by
  rcases Nat.eq_zero_or_pos n with h0 | h0
  · subst h0
    replace hstep := hid hstep
    replace hat := hid hat
    replace hn := hid hn
    have hz : gs b (min 0 32) = 0 := gs_zero b
    rw [hz]
    clear hz
    go_enter Try.func31, Try.ntmps31
    go_wp2_with fail
    go_loopw [5, 14] (fun v i wr => v = .int .u32 0 ∧ i = .int .i64 0 ∧ wr = w) (fun _ _ _ => 0)
    case atStart => exact ⟨rfl, rfl, rfl⟩
    case round =>
      obtain ⟨rfl, rfl, rfl⟩ := hrel
      go_wp2
      go_ret
      exact ⟨rfl, Below.refl _ _⟩
  obtain ⟨ba, oa, e⟩ := hat.place (by omega)
  subst e
  by_cases h32 : (32 : Int) < (n : Int)
  · have hm : min n 32 = 32 := by omega
    rw [hm] at hstep ⊢
    clear hm
    have hc0 : ¬ c = 0 := by omega
    have hc32 : 32 ≤ c := by omega
    have hc32' : (32 : Int) ≤ (c : Int) := by omega
    replace hn := hid hn
    replace hat := hid hat
    replace hstep := hid hstep
    go_enter Try.func31, Try.ntmps31
    go_wp2_with fail
    go_loopw [5, 14] (fun v i wr => ∃ j : Nat, j ≤ 32 ∧ v = .int .u32 (gs b j : Int) ∧ i = .int .i64 (j : Int) ∧ Below w.heap.size w wr) (fun _ i _ => 32 - (intOf i).toNat)
    case atStart => exact ⟨0, Nat.zero_le _, by rw [gs_zero]; rfl, rfl, Below.refl _ _⟩
    case round =>
      obtain ⟨j, hj, rfl, rfl, hbw⟩ := hrel
      by_cases hlt : j < 32
      · have hj32 : j < 32 := by omega
        have hjL : j < L.length := by rw [hn.out]; omega
        obtain ⟨x0, x1, x2⟩ := (hat.out.below hbw).one hjL
        have hll := gs_lt b (k := j) (by omega)
        have ho := or_pow (gs b j) j hll hj32
        have bl := below_lit wr (.cells #[.int .i64 (nodAt L j).1, .bool (nodAt L j).2.1, .int .i64 (nodAt L j).2.2] 38)
        have kS := fun w' (h : Below wr.heap.size wr w') => hstep.out j w' hlt (bnext hbw h)
        cases hb : b j
        · rw [hb] at kS
          have hse := hid (gs_no hb)
          replace hb := hid hb
          generalize gs b j = S at *
          generalize nodAt L j = X at *
          obtain ⟨X0, X1, X2⟩ := X
          dsimp only at *
          go_wp2_with fail
          refine (kS _ bl).mono ?_
          rintro e w3 ⟨rfl, hb3⟩
          have B3 := bnext hbw (bnext bl hb3)
          go_wp2_with fail
          go_roundw
          case rel => exact ⟨j + 1, by omega, by rw [hse.out], by go_num, B3⟩
          case measure => simp [intOf]; omega
        · rw [hb] at kS
          have hse := hid (gs_yes hb)
          replace hb := hid hb
          generalize gs b j = S at *
          generalize nodAt L j = X at *
          obtain ⟨X0, X1, X2⟩ := X
          dsimp only at *
          go_wp2_with fail
          refine (kS _ bl).mono ?_
          rintro e w3 ⟨rfl, hb3⟩
          have B3 := bnext hbw (bnext bl hb3)
          go_wp2_with fail
          go_roundw
          case rel => exact ⟨j + 1, by omega, by rw [hse.out, pow_mod hj32, ho], by go_num, B3⟩
          case measure => simp [intOf]; omega
      · have hje : j = 32 := by omega
        subst hje
        go_wp2
        go_ret
        exact ⟨rfl, hbw⟩
  · have hm : min n 32 = n := by omega
    rw [hm] at hstep ⊢
    clear hm
    have h32' : (n : Int) ≤ 32 := by omega
    have hc0 : ¬ c = 0 := by omega
    have hnc' : (n : Int) ≤ (c : Int) := by omega
    replace hn := hid hn
    replace hat := hid hat
    replace hstep := hid hstep
    go_enter Try.func31, Try.ntmps31
    go_wp2_with fail
    go_loopw [5, 14] (fun v i wr => ∃ j : Nat, j ≤ n ∧ v = .int .u32 (gs b j : Int) ∧ i = .int .i64 (j : Int) ∧ Below w.heap.size w wr) (fun _ i _ => n - (intOf i).toNat)
    case atStart => exact ⟨0, Nat.zero_le _, by rw [gs_zero]; rfl, rfl, Below.refl _ _⟩
    case round =>
      obtain ⟨j, hj, rfl, rfl, hbw⟩ := hrel
      by_cases hlt : j < n
      · have hj32 : j < 32 := by omega
        have hjL : j < L.length := by rw [hn.out]; omega
        obtain ⟨x0, x1, x2⟩ := (hat.out.below hbw).one hjL
        have hll := gs_lt b (k := j) (by omega)
        have ho := or_pow (gs b j) j hll hj32
        have bl := below_lit wr (.cells #[.int .i64 (nodAt L j).1, .bool (nodAt L j).2.1, .int .i64 (nodAt L j).2.2] 38)
        have kS := fun w' (h : Below wr.heap.size wr w') => hstep.out j w' hlt (bnext hbw h)
        cases hb : b j
        · rw [hb] at kS
          have hse := hid (gs_no hb)
          replace hb := hid hb
          generalize gs b j = S at *
          generalize nodAt L j = X at *
          obtain ⟨X0, X1, X2⟩ := X
          dsimp only at *
          go_wp2_with fail
          refine (kS _ bl).mono ?_
          rintro e w3 ⟨rfl, hb3⟩
          have B3 := bnext hbw (bnext bl hb3)
          go_wp2_with fail
          go_roundw
          case rel => exact ⟨j + 1, by omega, by rw [hse.out], by go_num, B3⟩
          case measure => simp [intOf]; omega
        · rw [hb] at kS
          have hse := hid (gs_yes hb)
          replace hb := hid hb
          generalize gs b j = S at *
          generalize nodAt L j = X at *
          obtain ⟨X0, X1, X2⟩ := X
          dsimp only at *
          go_wp2_with fail
          refine (kS _ bl).mono ?_
          rintro e w3 ⟨rfl, hb3⟩
          have B3 := bnext hbw (bnext bl hb3)
          go_wp2_with fail
          go_roundw
          case rel => exact ⟨j + 1, by omega, by rw [hse.out, pow_mod hj32, ho], by go_num, B3⟩
          case measure => simp [intOf]; omega
      · have hje : j = n := by omega
        subst hje
        go_wp2
        go_ret
        exact ⟨rfl, hbw⟩

theorem up_any (a : Option Addr) (n c : Nat) (L : List Nod) (w : World) (hn : L.length = n) (hl : n ≤ 4611686018427387904) (hnc : n ≤ c) (hat : DAt w a L) :
    Calls Try.prog 16 #[.slice a n c] w fun e w' => e = .returned (.int .u32 (upP L : Int)) ∧ Below w.heap.size w w' := by
  have kG := fun w' (h : Below w.heap.size w w') => gather32 a n c L (upB L) w' hn hl hnc (hat.below h) (fun k w1 _ h1 => box1_any (nodAt L k).1 (nodAt L k).2.1 (nodAt L k).2.2 w1)
  unfold upP
  rw [hn] at *
  generalize gs (upB L) (min n 32) = S at *
  replace hat := hid hat
  go_enter Try.func16, Try.ntmps16
  go_wp2_with fail
  refine (kG _ (Below.refl _ _)).mono ?_
  rintro e w1 ⟨rfl, hb⟩
  go_wp2
  go_ret
  exact ⟨rfl, hb⟩

theorem able_any (a : Option Addr) (n c : Nat) (L : List Nod) (s : Nat) (k : Int) (w : World) (hn : L.length = n) (hl : n ≤ 4611686018427387904) (hnc : n ≤ c) (hs : s < 4294967296) (hat : DAt w a L) :
    Calls Try.prog 21 #[.slice a n c, .int .u32 (s : Int), .int .i64 k] w fun e w' => e = .returned (.int .u32 (ableP L s k : Int)) ∧ Below w.heap.size w w' := by
  have bl := below_lit w (.cells #[.int .i64 k] 3)
  have hcell : (w.alloc (.cells #[.int .i64 k] 3)).cell? ⟨w.heap.size, 0, none⟩ = some (.int .i64 k) := by
    have := (cat_lit w 3 [.int .i64 k] #[.int .i64 k] rfl) (by simp)
    obtain ⟨b, o, e, h⟩ := this
    cases e
    exact h 0 (by simp)
  have kG := gather34 a n c L (coB L k) w.heap.size _ hn hl hnc (hat.below bl) (fun j w1 _ h1 => box2_any (nodAt L j).1 (nodAt L j).2.1 (nodAt L j).2.2 w.heap.size k w1 (stay h1 hcell))
  have hlt := gs_lt (coB L k) (k := min n 32) (by omega)
  unfold ableP
  rw [hn] at *
  generalize gs (coB L k) (min n 32) = S at *
  have hand := u32_and_nat s S hs hlt
  replace hat := hid hat
  clear hcell
  go_enter Try.func21, Try.ntmps21
  go_wp2_with fail
  refine kG.mono ?_
  rintro e w1 ⟨rfl, hb⟩
  have B1 := bnext bl hb
  go_wp2
  go_ret
  exact ⟨rfl, B1⟩

end Go.Proofs.Ytledgaiekbpndaa
