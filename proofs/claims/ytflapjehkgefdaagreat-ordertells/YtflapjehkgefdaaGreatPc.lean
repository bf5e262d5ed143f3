/- Whether partitions, and a config, are right. -/
import Derived.Test.YtflapjehkgefdaaGreatPa
import Derived.Test.YtflapjehkgefdaaGreatPb
namespace Go.Proofs.YtflapjehkgefdaaGreat
open Go.RowKit

def ti (T : List ByteArray) (n : ByteArray) : Option Nat := ki (fun x => x) T n
theorem ti_is (T : List ByteArray) (n : ByteArray) (i : Nat) : ti T n = some i ↔ i < T.length ∧ txAt T i = n ∧ ∀ j, j < i → txAt T j ≠ n := ki_is _ ByteArray.empty T n i
theorem ti_no (T : List ByteArray) (n : ByteArray) : ti T n = none ↔ ∀ j, j < T.length → txAt T j ≠ n := ki_no _ ByteArray.empty T n

set_option maxRecDepth 100000 in
theorem index74 (a : Option Addr) (k c : Nat) (T : List ByteArray) (n : ByteArray) (w : World) (hn : T.length = k) (hl : k ≤ 4611686018427387904) (hat : TAt w a T) :
    Calls Tryz.prog 99 #[.slice a k c, .string n] w fun e w' => e = .returned (.int .i64 (plV (ti T n))) ∧ w' = w := by
  replace hn := hid hn
  replace hat := hid hat
  go_enter Tryz.func99, Tryz.ntmps99
  go_wp2_with fail
  go_loopw [8] (fun i wr => ∃ j : Nat, j ≤ k ∧ i = .int .i64 (j : Int) ∧ Hid (NotTo T n j) ∧ wr = w) (fun i _ => k - (intOf i).toNat)
  case atStart => exact ⟨0, Nat.zero_le _, rfl, hid (fun i hi => by omega), rfl⟩
  case round =>
    obtain ⟨j, hj, rfl, hok, rfl⟩ := hrel
    by_cases hlt : j < k
    · have hjT : j < T.length := by rw [hn.out]; exact hlt
      obtain ⟨b, o, e⟩ := hat.out.place (by omega)
      subst e
      have x0 := hat.out.one hjT
      by_cases hB : txAt T j = n
      · have hf := hid ((ti_is T n j).2 ⟨hjT, hB, hok.out⟩)
        have he := text_eq hB.symm
        replace hB := hid hB
        generalize txAt T j = X at *
        go_wp2
        go_ret
        exact ⟨ret_int (by rw [hf.out]; rfl), rfl⟩
      · have hok2 : Hid (NotTo T n (j + 1)) := hid (hok.out.next hB)
        have he := text_ne (Ne.symm hB)
        replace hB := hid hB
        replace hok := hid hok
        generalize txAt T j = X at *
        go_wp2_with fail
        go_roundw
        case rel => exact ⟨j + 1, by omega, by go_num, hok2, trivial⟩
        case measure => simp [intOf]; omega
    · have hje : j = k := by omega
      subst hje
      have hf := hid ((ti_no T n).2 (by rw [hn.out]; exact hok.out))
      go_wp2
      go_ret
      exact ⟨ret_int (by rw [hf.out]; rfl), rfl⟩

theorem hasacc_any (a : Option Addr) (k c : Nat) (L : List Acc) (n : ByteArray) (w : World) (hn : L.length = k) (hl : k ≤ 4611686018427387904) (hat : AAt w a L) :
    Calls Tryz.prog 100 #[.slice a k c, .string n] w fun e w' => e = .returned (.bool (fi L n).isSome) ∧ Below w.heap.size w w' := by
  have kF := find_any a k c L n w hn hl hat
  replace hn := hid hn
  replace hat := hid hat
  cases hr : fi L n with
  | none =>
    rw [hr] at kF
    simp only [FRet] at kF
    go_enter Tryz.func100, Tryz.ntmps100
    go_wp2_with fail
    refine kF.mono ?_
    rintro e w1 ⟨rfl, hb1⟩
    go_wp2
    go_ret
    exact ⟨rfl, hb1⟩
  | some i =>
    rw [hr] at kF
    simp only [FRet] at kF
    go_enter Tryz.func100, Tryz.ntmps100
    go_wp2_with fail
    refine kF.mono ?_
    rintro e w1 ⟨rfl, hb1⟩
    go_wp2
    go_ret
    exact ⟨rfl, hb1⟩

/-- These are accounts, none twice, at most eight. -/
def UserTo (A : List Acc) (T : List ByteArray) (j : Nat) : Prop := ∀ i, i < j → ti T (txAt T i) = some i ∧ (fi A (txAt T i)).isSome = true
def userB (A : List Acc) (T : List ByteArray) : Bool := decide (T.length ≤ 8 ∧ ∀ i, i < T.length → ti T (txAt T i) = some i ∧ (fi A (txAt T i)).isSome = true)

set_option maxRecDepth 100000 in
set_option maxHeartbeats 1000000 in
theorem users_any (aa : Option Addr) (ak az : Nat) (A : List Acc) (a : Option Addr) (k c : Nat) (T : List ByteArray) (w : World) (hA : A.length = ak) (hal : ak ≤ 4611686018427387904) (hat : AAt w aa A) (hn : T.length = k) (hl : k ≤ 4611686018427387904) (htat : TAt w a T) :
    Calls Tryz.prog 85 #[.slice aa ak az, .slice a k c] w fun e w' => e = .returned (.bool (userB A T)) ∧ Below w.heap.size w w' := by
  by_cases h8 : 8 < k
  · have hf := hid (show userB A T = false from decide_eq_false fun h => by have := h.1; omega)
    have d8 : (8 : Int) < (k : Int) := by omega
    replace hA := hid hA
    replace hn := hid hn
    replace hat := hid hat
    replace htat := hid htat
    go_enter Tryz.func85, Tryz.ntmps85
    go_wp2
    go_ret
    rw [hf.out]; exact ⟨rfl, Below.refl _ _⟩
  have d8 : ¬ (8 : Int) < (k : Int) := by omega
  replace hA := hid hA
  replace hn := hid hn
  replace hat := hid hat
  replace htat := hid htat
  go_enter Tryz.func85, Tryz.ntmps85
  go_wp2_with fail
  go_loopw [12] (fun i wr => ∃ j : Nat, j ≤ k ∧ i = .int .i64 (j : Int) ∧ Hid (UserTo A T j) ∧ Below w.heap.size w wr) (fun i _ => k - (intOf i).toNat)
  case atStart => exact ⟨0, Nat.zero_le _, rfl, hid (fun i hi => by omega), Below.refl _ _⟩
  case round =>
    obtain ⟨j, hj, rfl, hok, hb⟩ := hrel
    by_cases hlt : j < k
    · have hjT : j < T.length := by rw [hn.out]; exact hlt
      obtain ⟨b, o, e⟩ := htat.out.place (by omega)
      subst e
      have x0 := (htat.out.below hb).one hjT
      have kI := index74 (some ⟨b, o, none⟩) k c T (txAt T j) wr hn.out hl (htat.out.below hb)
      have kH := hasacc_any aa ak az A (txAt T j) wr hA.out hal (hat.out.below hb)
      by_cases h1 : ti T (txAt T j) = some j
      · have p1 : plV (ti T (txAt T j)) = (j : Int) := plV_eq h1
        by_cases h2 : (fi A (txAt T j)).isSome = true
        · have hok2 : Hid (UserTo A T (j + 1)) := hid fun i hi => by
            rcases Nat.lt_or_ge i j with h | h
            · exact hok.out i h
            · obtain rfl : i = j := by omega
              exact ⟨h1, h2⟩
          rw [h2] at kH
          rw [p1] at kI
          clear p1 h1 h2
          replace hok := hid hok
          generalize txAt T j = X at *
          go_wp2_with fail
          refine kI.mono ?_
          rintro e w1 ⟨rfl, rfl⟩
          go_wp2_with fail
          refine kH.mono ?_
          rintro e w2 ⟨rfl, hb2⟩
          go_wp2_with fail
          go_roundw
          case rel => exact ⟨j + 1, by omega, by go_num, hok2, bnext hb hb2⟩
          case measure => simp [intOf]; omega
        · have hf := hid (show userB A T = false from decide_eq_false fun h => h2 (h.2 j hjT).2)
          replace h2 : (fi A (txAt T j)).isSome = false := by simpa using h2
          rw [h2] at kH
          rw [p1] at kI
          clear p1 h1 h2
          replace hok := hid hok
          generalize txAt T j = X at *
          go_wp2_with fail
          refine kI.mono ?_
          rintro e w1 ⟨rfl, rfl⟩
          go_wp2_with fail
          refine kH.mono ?_
          rintro e w2 ⟨rfl, hb2⟩
          go_wp2
          go_ret
          exact ⟨ret_bool hf.out.symm, bnext hb hb2⟩
      · have hf := hid (show userB A T = false from decide_eq_false fun h => h1 (h.2 j hjT).1)
        have p1 := plV_ne h1
        generalize plV (ti T (txAt T j)) = R at *
        clear h1 kH
        replace hok := hid hok
        generalize txAt T j = X at *
        go_wp2_with fail
        refine kI.mono ?_
        rintro e w1 ⟨rfl, rfl⟩
        go_wp2
        go_ret
        exact ⟨ret_bool hf.out.symm, hb⟩
    · have hje : j = k := by omega
      subst hje
      have hf := hid (show userB A T = true from decide_eq_true ⟨by rw [hn.out]; omega, by rw [hn.out]; exact hok.out⟩)
      go_wp2
      go_ret
      exact ⟨ret_bool hf.out.symm, hb⟩

/-- A partition, for itself. -/
def partB (cn : Nat) (A : List Acc) (p : Prt) (T : List ByteArray) : Bool := nameB p.name && setB cn p.nodes.toNat && decide (0 ≤ p.prio) && decide (p.prio ≤ 1000) && decide (1 ≤ p.most) && decide (p.most ≤ 1048576) && userB A T

set_option maxRecDepth 100000 in
set_option maxHeartbeats 2000000 in
theorem ispart_any (ca pa aa qa : Option Addr) (cn cc pn pc ak az qk qc : Nat) (pol : Int) (A : List Acc) (x : ByteArray) (s : Nat) (pr mx : Int) (da : Option Addr) (dn dc : Nat) (T : List ByteArray) (w : World) (hs : s < 4294967296) (hA : A.length = ak) (hal : ak ≤ 4611686018427387904) (hat : AAt w aa A) (hT : T.length = dn) (hl : dn ≤ 4611686018427387904) (htat : TAt w da T) :
    Calls Tryz.prog 75 #[.agg #[.slice ca cn cc, .slice pa pn pc, .slice aa ak az, .slice qa qk qc, .int .u8 pol], .agg #[.string x, .int .u32 (s : Int), .int .i64 pr, .int .i64 mx, .slice da dn dc]] w
      fun r w' => r = .returned (.bool (nameB x && setB cn s && decide (0 ≤ pr) && decide (pr ≤ 1000) && decide (1 ≤ mx) && decide (mx ≤ 1048576) && userB A T)) ∧ Below w.heap.size w w' := by
  obtain ⟨W1, hW1⟩ : ∃ W1, W1 = w.alloc (.cells #[.slice ca cn cc, .slice pa pn pc, .slice aa ak az, .slice qa qk qc, .int .u8 pol] 28) := ⟨_, rfl⟩
  obtain ⟨W0, hW0⟩ : ∃ W0, W0 = W1.alloc (.cells #[.string x, .int .u32 (s : Int), .int .i64 pr, .int .i64 mx, .slice da dn dc] 67) := ⟨_, rfl⟩
  have b1 : Below w.heap.size w W1 := by rw [hW1]; exact below_lit _ _
  have b0 : Below W1.heap.size W1 W0 := by rw [hW0]; exact below_lit _ _
  have hz1 : W1.heap.size = w.heap.size + 1 := by rw [hW1, size_lit]
  have v0 : W1.cell? ⟨w.heap.size, 0, none⟩ = some (.slice ca cn cc) := by rw [hW1]; exact lit_cell _ _ _ _ _ rfl
  have v2 : W1.cell? ⟨w.heap.size, 2, none⟩ = some (.slice aa ak az) := by rw [hW1]; exact lit_cell _ _ _ _ _ rfl
  replace v0 := stay b0 v0
  replace v2 := stay b0 v2
  have u0 : W0.cell? ⟨w.heap.size + 1, 0, none⟩ = some (.string x) := by rw [hW0, ← hz1]; exact lit_cell _ _ _ _ _ rfl
  have u1 : W0.cell? ⟨w.heap.size + 1, 1, none⟩ = some (.int .u32 (s : Int)) := by rw [hW0, ← hz1]; exact lit_cell _ _ _ _ _ rfl
  have u2 : W0.cell? ⟨w.heap.size + 1, 2, none⟩ = some (.int .i64 pr) := by rw [hW0, ← hz1]; exact lit_cell _ _ _ _ _ rfl
  have u3 : W0.cell? ⟨w.heap.size + 1, 3, none⟩ = some (.int .i64 mx) := by rw [hW0, ← hz1]; exact lit_cell _ _ _ _ _ rfl
  have u4 : W0.cell? ⟨w.heap.size + 1, 4, none⟩ = some (.slice da dn dc) := by rw [hW0, ← hz1]; exact lit_cell _ _ _ _ _ rfl
  have B0 := bnext b1 b0
  have k1 := name_any x W0
  have k2 := fun w' => nodes_any ca cn cc s hs w'
  have k3 := fun w' (hb : Below w.heap.size w w') => users_any aa ak az A da dn dc T w' hA hal (hat.below hb) hT hl (htat.below hb)
  replace hA := hid hA
  replace hT := hid hT
  replace hat := hid hat
  replace htat := hid htat
  generalize nameB x = Q1 at *
  generalize setB cn s = Q2 at *
  generalize userB A T = Q3 at *
  have hW : Hid (W0 = (w.alloc (.cells #[.slice ca cn cc, .slice pa pn pc, .slice aa ak az, .slice qa qk qc, .int .u8 pol] 28)).alloc (.cells #[.string x, .int .u32 (s : Int), .int .i64 pr, .int .i64 mx, .slice da dn dc] 67)) := hid (by rw [hW0, hW1])
  clear hW0 hW1 b0 b1 hz1
  have hlt : w.heap.size + 1 < W0.heap.size := World.block_lt_of_cell? W0 _ u0
  go_enter Tryz.func75, Tryz.ntmps75
  go_wp2_with fail
  rw [← hW.out]
  refine k1.mono ?_
  rintro e w1 ⟨rfl, hb1⟩
  have D1 := bnext B0 hb1
  replace v0 := stay hb1 v0
  replace v2 := stay hb1 v2
  replace u1 := stay hb1 u1
  replace u2 := stay hb1 u2
  replace u3 := stay hb1 u3
  replace u4 := stay hb1 u4
  replace hlt := Nat.lt_of_lt_of_le hlt hb1.size
  clear k1 hW u0 hb1 B0
  cases Q1 with
  | false =>
    go_wp2
    go_ret
    exact ⟨rfl, D1⟩
  | true =>
    go_wp2_with fail
    refine (k2 _).mono ?_
    rintro e w2 ⟨rfl, hb2⟩
    have D2 := bnext D1 hb2
    replace v2 := stay hb2 v2
    replace u2 := stay hb2 u2
    replace u3 := stay hb2 u3
    replace u4 := stay hb2 u4
    replace hlt := Nat.lt_of_lt_of_le hlt hb2.size
    replace k3 := k3 _ D2
    clear k2 v0 u1 hb2 D1
    cases Q2 with
    | false =>
      go_wp2
      go_ret
      exact ⟨rfl, D2⟩
    | true =>
      by_cases h1 : 0 ≤ pr
      · have d1 : decide (0 ≤ pr) = true := by simpa using h1
        by_cases h2 : pr ≤ 1000
        · have d2 : decide (pr ≤ 1000) = true := by simpa using h2
          by_cases h3 : 1 ≤ mx
          · have d3 : decide (1 ≤ mx) = true := by simpa using h3
            by_cases h4 : mx ≤ 1048576
            · have d4 : decide (mx ≤ 1048576) = true := by simpa using h4
              go_wp2_with fail
              refine k3.mono ?_
              rintro e w3 ⟨rfl, hb3⟩
              go_wp2
              go_ret
              exact ⟨ret_bool (by rw [d1, d2, d3, d4]; cases Q3 <;> rfl), bnext D2 hb3⟩
            · have d4 : decide (mx ≤ 1048576) = false := by simpa using h4
              go_wp2
              go_ret
              exact ⟨ret_bool (by rw [d1, d2, d3, d4]; rfl), D2⟩
          · have d3 : decide (1 ≤ mx) = false := by simpa using h3
            go_wp2
            go_ret
            exact ⟨ret_bool (by rw [d1, d2, d3]; rfl), D2⟩
        · have d2 : decide (pr ≤ 1000) = false := by simpa using h2
          go_wp2
          go_ret
          exact ⟨ret_bool (by rw [d1, d2]; rfl), D2⟩
      · have d1 : decide (0 ≤ pr) = false := by simpa using h1
        go_wp2
        go_ret
        exact ⟨ret_bool (by rw [d1]; rfl), D2⟩

theorem cores_any (a : Option Addr) (n c : Nat) (Z : List Int) (w : World) (hn : Z.length = n) (hl : n ≤ 4611686018427387904) (hat : IAt w a Z) :
    Calls Tryz.prog 56 #[.slice a n c] w fun e w' => e = .returned (.bool (decide ((Nd.newP Z).2 = 0))) ∧ Below w.heap.size w w' := by
  have hat2 : CAt w a (Z.map Nd.I) := by
    have : Z.map Nd.I = Z.flatMap ic := by
      clear hn hat
      induction Z with
      | nil => rfl
      | cons x r ih => rw [List.map_cons, List.flatMap_cons, ih]; rfl
    rw [this]; exact hat
  have kN := Nd.new_any a n c Z w hn hl hat2
  replace hn := hid hn
  replace hat := hid hat
  replace hat2 := hid hat2
  generalize Nd.newP Z = D at *
  obtain ⟨D1, D2⟩ := D
  by_cases h : D2 = 0
  · subst h
    go_enter Tryz.func56, Tryz.ntmps56
    go_wp2_with fail
    refine kN.mono ?_
    rintro e w1 ⟨ra, rc, rfl, hrc, hown, hb1⟩
    replace hown := hid hown
    dsimp only at *
    generalize D1.length = dl at *
    go_wp2
    go_ret
    exact ⟨rfl, hb1⟩
  · have hd := hid (show decide (D2 = 0) = false from decide_eq_false h)
    go_enter Tryz.func56, Tryz.ntmps56
    go_wp2_with fail
    refine kN.mono ?_
    rintro e w1 ⟨ra, rc, rfl, hrc, hown, hb1⟩
    replace hown := hid hown
    dsimp only at *
    generalize D1.length = dl at *
    go_wp2
    go_ret
    exact ⟨ret_bool (by first | exact (hd.out).symm | (rw [hd.out]; exact beq_eq_false_iff_ne.2 h)), hb1⟩

def polB (p : Int) : Bool := decide (p = 1 ∨ p = 2 ∨ p = 3)
theorem policy_any (p : Int) (w : World) : Calls Tryz.prog 58 #[.int .u8 p] w fun e w' => e = .returned (.bool (polB p)) ∧ w' = w := by
  by_cases h1 : p = 1
  · subst h1
    go_enter Tryz.func58, Tryz.ntmps58
    go_wp2
    go_ret
    exact ⟨rfl, rfl⟩
  by_cases h2 : p = 2
  · subst h2
    go_enter Tryz.func58, Tryz.ntmps58
    go_wp2
    go_ret
    exact ⟨rfl, rfl⟩
  by_cases h3 : p = 3
  · subst h3
    go_enter Tryz.func58, Tryz.ntmps58
    go_wp2
    go_ret
    exact ⟨rfl, rfl⟩
  have hf := hid (show polB p = false from decide_eq_false fun h => by rcases h with h | h | h <;> contradiction)
  have e1 : (p == 1) = false := beq_eq_false_iff_ne.2 h1
  have e2 : (p == 2) = false := beq_eq_false_iff_ne.2 h2
  have e3 : (p == 3) = false := beq_eq_false_iff_ne.2 h3
  go_enter Tryz.func58, Tryz.ntmps58
  go_wp2
  go_ret
  exact ⟨ret_bool (by rw [hf.out]), rfl⟩

end Go.Proofs.YtflapjehkgefdaaGreat
