/- A job's states, plain; the small functions. -/
import Derived.Test.YtomdghodbkhkaaaGreatDoorCp2
import Derived.Test.YtomdghodbkhkaaaGreatDoorNdRef
import Derived.Test.YtomdghodbkhkaaaGreatDoorNdCount
namespace Go.Proofs.YtomdghodbkhkaaaGreatDoor
open Go.RowKit
set_option linter.unusedVariables false
set_option linter.unusedSimpArgs false

abbrev MT : Int := 1099511627776
def overB (s : Int) : Bool := decide (3 ≤ s) && decide (s ≤ 8)
def hasN (on n : Int) : Bool := decide (((Nd.cnt on.toNat : Nat) : Int) = n)
def askB (s : Spc) : Bool := decide (1 ≤ s.nodes) && decide (s.nodes ≤ 32) && decide (1 ≤ s.cores) && decide (s.cores ≤ 64) && decide (1 ≤ s.lim) && decide (s.lim ≤ 1048576)
def ord3 (a b c : Int) : Bool := decide (a ≤ b) && decide (b ≤ c)
def ord4 (a b c d : Int) : Bool := decide (a ≤ b) && decide (b ≤ c) && decide (c ≤ d)
def fitB (j : Job) : Bool :=
  if j.st = 1 then decide (j.beg = 0) && decide (j.fin = 0) && decide (j.on = 0) && decide (j.exit = 0)
  else if j.st = 2 then hasN j.on j.s.nodes && ord3 j.sub j.beg MT && decide (j.fin = 0) && decide (j.exit = 0)
  else if j.st = 8 ∨ (j.st = 6 ∧ j.on = 0) then decide (j.on = 0) && ord3 j.sub j.fin MT && decide (j.beg = 0) && decide (j.exit = 0)
  else if overB j.st = true then hasN j.on j.s.nodes && ord4 j.sub j.beg j.fin MT && (decide (j.exit ≠ 0) == decide (j.st = 4))
  else false
def rightB (j : Job) : Bool := decide (1 ≤ j.id) && decide (j.id ≤ 1073741824) && decide (0 ≤ j.arr) && decide (j.arr ≤ j.id) && decide (0 ≤ j.idx) && askB j.s && ord3 0 j.sub MT && fitB j
/-- May a job go from one state right to another one? -/
def folB (a b : Int) : Bool := if b = 2 ∨ b = 8 then decide (a = 1) else if b = 6 then decide (a = 1 ∨ a = 2) else if 3 ≤ b ∧ b ≤ 7 then decide (a = 2) else false
def sinceP (j : Job) : Int := if j.st = 2 then j.beg else j.sub
def exP (s x : Int) : Int := if s = 4 then (if x = 0 then 1 else x) else 0
def endP (j : Job) : Int := if j.st = 2 then wrap64 (j.beg + j.s.lim) else if overB j.st = true then j.fin else 0

theorem over_any (s : Int) (w : World) : Calls Tryz.prog 89 #[.int .u8 s] w fun e w' => e = .returned (.bool (overB s)) ∧ w' = w := by
  go_enter Tryz.func89, Tryz.ntmps89
  go_wp2
  all_goals
    simp only [beq_iff_eq, beq_eq_false_iff_ne] at *
    go_ret
    exact ⟨ret_bool (by (try unfold overB); rw [Bool.eq_iff_iff]; simp only [Bool.and_eq_true, Bool.or_eq_true, decide_eq_true_eq, beq_iff_eq, true_iff, iff_true, eq_self, Bool.false_eq_true, false_iff, iff_false]; omega), rfl⟩

theorem rover_any (s : Int) (w : World) : Calls Tryz.prog 50 #[.int .u8 s] w fun e w' => e = .returned (.bool (overB s)) ∧ w' = w := by
  go_enter Tryz.func50, Tryz.ntmps50
  go_wp2
  all_goals
    go_ret
    exact ⟨ret_bool (by (try unfold overB); rw [Bool.eq_iff_iff]; simp only [Bool.and_eq_true, Bool.or_eq_true, decide_eq_true_eq, beq_iff_eq, true_iff, iff_true, eq_self, Bool.false_eq_true, false_iff, iff_false]; omega), rfl⟩

set_option maxRecDepth 100000 in
set_option maxHeartbeats 1000000 in
theorem asked_any (s : Spc) (w : World) : Calls Tryz.prog 70 #[.agg (sc s).toArray] w fun e w' => e = .returned (.bool (askB s)) ∧ Below w.heap.size w w' := by
  obtain ⟨s0, s1, s2, s3, nn, co, lm, da, dn, dc⟩ := s
  simp only [sc]
  go_enter Tryz.func70, Tryz.ntmps70
  go_wp2
  all_goals
    go_ret
    exact ⟨ret_bool (by (try unfold askB); rw [Bool.eq_iff_iff]; simp only [Bool.and_eq_true, Bool.or_eq_true, decide_eq_true_eq, beq_iff_eq, true_iff, iff_true, eq_self, Bool.false_eq_true, false_iff, iff_false]; omega), below_lit _ _⟩

/-- Times in order. -/
def ordB (L : List Int) : Bool := decide (∀ i, i < L.length - 1 → itAt L i ≤ itAt L (i + 1))
theorem ord_3 (a b c : Int) : ordB [a, b, c] = ord3 a b c := by
  unfold ordB ord3
  rw [Bool.eq_iff_iff]
  simp only [decide_eq_true_eq, Bool.and_eq_true]
  constructor
  · intro h; exact ⟨h 0 (by simp), h 1 (by simp)⟩
  · rintro ⟨h1, h2⟩ i hi
    have hi : i < 2 := hi
    obtain rfl | rfl : i = 0 ∨ i = 1 := by omega
    · exact h1
    · exact h2
theorem ord_4 (a b c d : Int) : ordB [a, b, c, d] = ord4 a b c d := by
  unfold ordB ord4
  rw [Bool.eq_iff_iff]
  simp only [decide_eq_true_eq, Bool.and_eq_true]
  constructor
  · intro h; exact ⟨⟨h 0 (by simp), h 1 (by simp)⟩, h 2 (by simp)⟩
  · rintro ⟨⟨h1, h2⟩, h3⟩ i hi
    have hi : i < 3 := hi
    obtain rfl | rfl | rfl : i = 0 ∨ i = 1 ∨ i = 2 := by omega
    · exact h1
    · exact h2
    · exact h3

theorem nan_any (x : Int) (w : World) : Calls Tryz.prog 110 #[.int .i64 x] w fun e w' => e = .returned (.bool false) ∧ w' = w := by
  go_enter Tryz.func110, Tryz.ntmps110
  go_wp2
  go_ret
  exact ⟨ret_bool (by simp), rfl⟩
theorem less_any (x y : Int) (w : World) : Calls Tryz.prog 99 #[.int .i64 x, .int .i64 y] w fun e w' => e = .returned (.bool (decide (x < y))) ∧ w' = w := by
  go_enter Tryz.func99, Tryz.ntmps99
  go_wp2_with fail
  refine (nan_any x w).mono ?_
  rintro e w1 ⟨rfl, rfl⟩
  go_wp2
  go_ret
  exact ⟨rfl, rfl⟩


def OrdFrom (L : List Int) (j : Nat) : Prop := ∀ i, j ≤ i → i < L.length - 1 → itAt L i ≤ itAt L (i + 1)
theorem ord_yes {L : List Int} (h : OrdFrom L 0) : ordB L = true := decide_eq_true (fun i hi => h i (Nat.zero_le _) hi)
theorem ord_no {L : List Int} {i : Nat} (hi : i < L.length - 1) (h : itAt L (i + 1) < itAt L i) : ordB L = false := decide_eq_false (fun h2 => by have := h2 i hi; omega)

set_option maxRecDepth 100000 in
theorem sorted_any (a : Option Addr) (k c : Nat) (L : List Int) (w : World) (hn : L.length = k) (h0 : 1 ≤ k) (hl : k ≤ 4611686018427387904) (hat : IAt w a L) :
    Calls Tryz.prog 87 #[.slice a k c] w fun e w' => e = .returned (.bool (ordB L)) ∧ Below w.heap.size w w' := by
  replace hn := hid hn
  replace hat := hid hat
  go_enter Tryz.func87, Tryz.ntmps87
  go_wp2_with fail
  rw [show ((k : Int) - 1) = ((k - 1 : Nat) : Int) by omega]
  go_loopw [3] (fun i wr => ∃ j : Nat, j < k ∧ i = .int .i64 (j : Int) ∧ Hid (OrdFrom L j) ∧ Below w.heap.size w wr) (fun i _ => (intOf i).toNat)
  case atStart => exact ⟨k - 1, by omega, rfl, hid (fun i h1 h2 => by rw [hn.out] at h2; omega), Below.refl _ _⟩
  case round =>
    obtain ⟨j, hj, rfl, hok, hb⟩ := hrel
    rcases j with _ | m
    · have hf := hid (ord_yes hok.out)
      go_wp2
      go_ret
      exact ⟨ret_bool hf.out.symm, hb⟩
    · obtain ⟨b, o, e⟩ := hat.out.place (by rw [hn.out]; omega)
      subst e
      have x0 := (hat.out.below hb).one (i := m) (by rw [hn.out]; omega)
      have x1 := (hat.out.below hb).one (i := m + 1) (by rw [hn.out]; omega)
      have hin : m < L.length - 1 := by rw [hn.out]; omega
      have hnext : itAt L m ≤ itAt L (m + 1) → OrdFrom L m := fun h i h1 h2 => by
        rcases Nat.lt_or_ge m i with h3 | h3
        · exact hok.out i h3 h2
        · obtain rfl : i = m := by omega
          exact h
      have hbad := fun h => ord_no (L := L) hin h
      have kL := fun w => less_any (itAt L (m + 1)) (itAt L m) w
      generalize itAt L m = X at *
      generalize itAt L (m + 1) = Y at *
      replace hnext := hid hnext
      replace hbad := hid hbad
      replace hin := hid hin
      go_wp2_with fail
      go_quiet (first | (go_at_call 99; exact Calls.quiet_of_same (kL _)))
      have B1 := below_drewN hb nq
      generalize wr.drewN nq = W1 at *
      by_cases h : Y < X
      · have hf := hid (hbad.out h)
        go_wp2
        go_ret
        exact ⟨ret_bool hf.out.symm, B1⟩
      · have hf := hnext.out (by omega)
        replace hf := hid hf
        go_wp2_with fail
        go_roundw
        case rel => exact ⟨m, by omega, by go_num, hf, B1⟩
        case measure => simp [intOf]

theorem order_any (a : Option Addr) (k c : Nat) (L : List Int) (w : World) (hn : L.length = k) (h0 : 1 ≤ k) (hl : k ≤ 4611686018427387904) (hat : IAt w a L) :
    Calls Tryz.prog 71 #[.slice a k c] w fun e w' => e = .returned (.bool (ordB L)) ∧ Below w.heap.size w w' := by
  have kS := sorted_any a k c L w hn h0 hl hat
  replace hn := hid hn
  replace hat := hid hat
  generalize ordB L = R at *
  go_enter Tryz.func71, Tryz.ntmps71
  go_wp2_with fail
  refine kS.mono ?_
  rintro e w1 ⟨rfl, hb1⟩
  go_wp2
  go_ret
  exact ⟨rfl, hb1⟩
theorem order3 (a b c : Int) (w : World) (g : Nat) (hg : CAt w (some ⟨g, 0, none⟩) [.int .i64 a, .int .i64 b, .int .i64 c]) : Calls Tryz.prog 71 #[.slice (some ⟨g, 0, none⟩) 3 3] w fun e w' => e = .returned (.bool (ord3 a b c)) ∧ Below w.heap.size w w' := by
  have h := order_any (some ⟨g, 0, none⟩) 3 3 [a, b, c] w rfl (by omega) (by omega) hg
  rw [ord_3] at h
  exact h
theorem order4 (a b c d : Int) (w : World) (g : Nat) (hg : CAt w (some ⟨g, 0, none⟩) [.int .i64 a, .int .i64 b, .int .i64 c, .int .i64 d]) : Calls Tryz.prog 71 #[.slice (some ⟨g, 0, none⟩) 4 4] w fun e w' => e = .returned (.bool (ord4 a b c d)) ∧ Below w.heap.size w w' := by
  have h := order_any (some ⟨g, 0, none⟩) 4 4 [a, b, c, d] w rfl (by omega) (by omega) hg
  rw [ord_4] at h
  exact h

end Go.Proofs.YtomdghodbkhkaaaGreatDoor
