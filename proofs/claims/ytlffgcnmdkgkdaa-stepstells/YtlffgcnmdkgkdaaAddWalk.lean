/- The law StepsAdd answers true, whatever it is handed. -/
import Derived.Test.YtlffgcnmdkgkdaaAwake
namespace Go.Proofs.Ytlffgcnmdkgkdaa
open Go.RowKit

/-- A span in a block of its own. -/
def Sp (w : World) (g : Nat) (a b n : Int) : Prop := w.heap[g]? = some (.cells #[.int .i64 a, .int .i64 b, .int .i64 n] 24 (0, 0))

theorem Sp.lt {w : World} {g : Nat} {a b n : Int} (h : Sp w g a b n) : g < w.heap.size := (Array.getElem?_eq_some_iff.1 h).1
theorem Sp.below {w w' : World} {g : Nat} {a b n : Int} (h : Sp w g a b n) (hb : Below w.heap.size w w') : Sp w' g a b n := by
  unfold Sp; rw [hb.block g h.lt]; exact h
theorem Sp.new (w : World) (a b n : Int) : Sp (w.alloc (.cells #[.int .i64 a, .int .i64 b, .int .i64 n] 24)) w.heap.size a b n := heap_alloc_new w _
theorem Sp.c0 {w : World} {g : Nat} {a b n : Int} (h : Sp w g a b n) : w.cell? ⟨g, 0, none⟩ = some (.int .i64 a) := by unfold Sp at h; simp [World.cell?, h]
theorem Sp.c1 {w : World} {g : Nat} {a b n : Int} (h : Sp w g a b n) : w.cell? ⟨g, 1, none⟩ = some (.int .i64 b) := by unfold Sp at h; simp [World.cell?, h]
theorem Sp.c2 {w : World} {g : Nat} {a b n : Int} (h : Sp w g a b n) : w.cell? ⟨g, 2, none⟩ = some (.int .i64 n) := by unfold Sp at h; simp [World.cell?, h]

theorem addA_nil {C : List Cut} {a b n : Int} (h : (addA C a b n).2 ≠ 0) : (addA C a b n).1 = [] := by
  unfold addA at *
  split
  · rename_i h1
    rw [if_pos h1] at h
    split
    · rfl
    · rename_i h2
      rw [if_neg h2] at h
      split
      · rfl
      · rename_i h3
        rw [if_neg h3] at h
        exact absurd rfl h
  · rfl

set_option maxRecDepth 100000 in
set_option maxHeartbeats 1000000 in
theorem adds_any (s : Option Addr) (n c : Nat) (C : List Cut) (a b m t : Int) (w : World) (hn : C.length = n) (hl : n ≤ 4611686018427387904) (hat : SAt w s C) :
    Calls Try.prog 5 #[.slice s n c, .agg #[.int .i64 a, .int .i64 b, .int .i64 m], .int .i64 t] w fun e w' => e = .returned (.bool true) ∧ Below w.heap.size w w' := by
  replace hn := hid hn
  replace hat := hid hat
  have b0 := below_lit w (.cells #[.int .i64 a, .int .i64 b, .int .i64 m] 24)
  have p0 := Sp.new w a b m
  have x0 := p0.c0
  have x1 := p0.c1
  have x2 := p0.c2
  by_cases hok : (addA C a b m).2 = 0
  · obtain ⟨hg, hr, hv, hbk⟩ := add_good hok
    obtain ⟨D, hD⟩ : ∃ D, addA C a b m = (D, 0) := ⟨_, Prod.ext rfl hok⟩
    rw [hD] at hr hv hbk
    have kA := add_of s n c C D 0 a b m (w.alloc (.cells #[.int .i64 a, .int .i64 b, .int .i64 m] 24)) hD hn.out hl (hat.out.below b0)
    have hDl : D.length ≤ 4096 := hr.2.1
    obtain ⟨d, hd⟩ : ∃ d, D.length = d := ⟨_, rfl⟩
    rw [hd] at kA hDl
    replace hd := hid hd
    go_enter Try.func5, Try.ntmps5
    go_wp2_with fail
    refine kA.mono ?_
    rintro e w1 ⟨a1, c1, rfl, o1, b1⟩
    have q1 := o1.sat
    have p1 := p0.below b1
    have s1 := (hat.out.below b0).below b1
    have B1 := bnext b0 b1
    clear o1 b1 b0 kA p0 x0 x1 x2
    have kT := at_any s n c C t w1 hn.out hl s1
    go_wp2_with fail
    refine kT.mono ?_
    rintro e w2 ⟨rfl, b2⟩
    have q2 := q1.below b2
    have p2 := p1.below b2
    have s2 := s1.below b2
    have B2 := bnext B1 b2
    clear b2 q1 p1 s1 kT
    have kT2 := at_any a1 d c1 D t w2 hd.out (by omega) q2
    go_wp2_with fail
    refine kT2.mono ?_
    rintro e w3 ⟨rfl, b3⟩
    have q3 := q2.below b3
    have p3 := p2.below b3
    have s3 := s2.below b3
    have B3 := bnext B2 b3
    clear b3 q2 p2 s2 kT2
    have kR := right_any a1 d c1 D w3 hd.out (by omega) q3
    rw [rightB_iff.2 hr] at kR
    have hm0 : IntKind.i64.wrap (-m) = -m := by rw [IntKind.wrap_i64]; have := hg.2.2; omega
    by_cases ht : 0 ≤ t ∧ t ≤ 2199023255552
    · have eA := hid (show atA C t = (val C t, 0) from if_pos ⟨hg.1, ht⟩)
      have eB := hid (show atA D t = (gv C a b m t, 0) by unfold atA; rw [if_pos ⟨hr, ht⟩, hv t ht.1 ht.2])
      rw [eA.out, eB.out]
      have hvb := hg.1.val_bd ht.1
      have hw1 : IntKind.i64.wrap (val C t + m) = val C t + m := by rw [IntKind.wrap_i64]; have := hg.2.2; omega
      by_cases hi : a ≤ t ∧ t < b
      · have eg : gv C a b m t = val C t + m := by unfold gv; rw [if_pos hi]
        rw [eg]
        have di : decide (a ≤ t) = true := decide_eq_true hi.1
        have dj : decide (t < b) = true := decide_eq_true hi.2
        replace hg := hid hg
        replace hr := hid hr
        replace ht := hid ht
        replace hi := hid hi
        clear hv eg eA eB hvb
        generalize val C t = V at *
        go_wp2_with fail
        refine kR.mono ?_
        rintro e w4 ⟨rfl, b4⟩
        have q4 := q3.below b4
        have p4 := p3.below b4
        have s4 := s3.below b4
        have B4 := bnext B3 b4
        have x0 := p4.c0
        have x1 := p4.c1
        have x2 := p4.c2
        clear b4 q3 p3 s3 kR
        have kA2 := add_of a1 d c1 D C 0 a b (-m) w4 hbk hd.out (by omega) q4
        rw [hn.out] at kA2
        go_wp2_with fail
        refine kA2.mono ?_
        rintro e w5 ⟨a5, c5, rfl, o5, b5⟩
        have B5 := bnext B4 b5
        have kS := same_any a5 s n c5 c C w5 hn.out hl o5.sat (s4.below b5)
        clear o5 b5 kA2
        go_wp2_with fail
        refine kS.mono ?_
        rintro e w6 ⟨rfl, b6⟩
        have B6 := bnext B5 b6
        go_wp2_with fail
        refine (awake_any _).mono ?_
        rintro e w7 ⟨rfl, b7⟩
        have B7 := bnext B6 b7
        go_wp2
        go_ret
        exact ⟨rfl, B7⟩
      · have eg : gv C a b m t = val C t := by unfold gv; rw [if_neg hi]; omega
        rw [eg]
        replace hg := hid hg
        replace hr := hid hr
        replace ht := hid ht
        clear hv eg eA eB hvb
        generalize val C t = V at *
        have dij : decide (a ≤ t) = false ∨ (decide (a ≤ t) = true ∧ decide (t < b) = false) := by
          by_cases h1 : a ≤ t
          · exact .inr ⟨decide_eq_true h1, decide_eq_false fun h2 => hi ⟨h1, h2⟩⟩
          · exact .inl (decide_eq_false h1)
        replace hi := hid hi
        rcases dij with di | ⟨di, dj⟩
        all_goals
          go_wp2_with fail
          refine kR.mono ?_
          rintro e w4 ⟨rfl, b4⟩
          have q4 := q3.below b4
          have p4 := p3.below b4
          have s4 := s3.below b4
          have B4 := bnext B3 b4
          have x0 := p4.c0
          have x1 := p4.c1
          have x2 := p4.c2
          clear b4 q3 p3 s3 kR
          have kA2 := add_of a1 d c1 D C 0 a b (-m) w4 hbk hd.out (by omega) q4
          rw [hn.out] at kA2
          go_wp2_with fail
          refine kA2.mono ?_
          rintro e w5 ⟨a5, c5, rfl, o5, b5⟩
          have B5 := bnext B4 b5
          have kS := same_any a5 s n c5 c C w5 hn.out hl o5.sat (s4.below b5)
          clear o5 b5 kA2
          go_wp2_with fail
          refine kS.mono ?_
          rintro e w6 ⟨rfl, b6⟩
          have B6 := bnext B5 b6
          go_wp2_with fail
          refine (awake_any _).mono ?_
          rintro e w7 ⟨rfl, b7⟩
          have B7 := bnext B6 b7
          go_wp2
          go_ret
          exact ⟨rfl, B7⟩
    · have eA := hid (show atA C t = (0, 2) from if_neg fun h => ht h.2)
      have eB := hid (show atA D t = (0, 2) from if_neg fun h => ht h.2)
      rw [eA.out, eB.out]
      replace hg := hid hg
      replace hr := hid hr
      replace ht := hid ht
      clear hv
      go_wp2_with fail
      refine kR.mono ?_
      rintro e w4 ⟨rfl, b4⟩
      have q4 := q3.below b4
      have p4 := p3.below b4
      have s4 := s3.below b4
      have B4 := bnext B3 b4
      have x0 := p4.c0
      have x1 := p4.c1
      have x2 := p4.c2
      clear b4 q3 p3 s3 kR
      have kA2 := add_of a1 d c1 D C 0 a b (-m) w4 hbk hd.out (by omega) q4
      rw [hn.out] at kA2
      go_wp2_with fail
      refine kA2.mono ?_
      rintro e w5 ⟨a5, c5, rfl, o5, b5⟩
      have B5 := bnext B4 b5
      have kS := same_any a5 s n c5 c C w5 hn.out hl o5.sat (s4.below b5)
      clear o5 b5 kA2
      go_wp2_with fail
      refine kS.mono ?_
      rintro e w6 ⟨rfl, b6⟩
      have B6 := bnext B5 b6
      go_wp2_with fail
      refine (awake_any _).mono ?_
      rintro e w7 ⟨rfl, b7⟩
      have B7 := bnext B6 b7
      go_wp2
      go_ret
      exact ⟨rfl, B7⟩
  · obtain ⟨E, hE⟩ : ∃ E, addA C a b m = ([], E) := ⟨_, Prod.ext (addA_nil hok) rfl⟩
    rw [hE] at hok
    have kA := add_of s n c C [] E a b m (w.alloc (.cells #[.int .i64 a, .int .i64 b, .int .i64 m] 24)) hE hn.out hl (hat.out.below b0)
    have dE : (E != 0) = true := by simpa using hok
    replace hok := hid hok
    go_enter Try.func5, Try.ntmps5
    go_wp2_with fail
    refine kA.mono ?_
    rintro e w1 ⟨a1, c1, rfl, o1, b1⟩
    have B1 := bnext b0 b1
    rw [List.length_nil]
    go_wp2_with fail
    refine (awake_any _).mono ?_
    rintro e w7 ⟨rfl, b7⟩
    have B7 := bnext B1 b7
    go_wp2
    go_ret
    exact ⟨rfl, B7⟩

end Go.Proofs.Ytlffgcnmdkgkdaa
