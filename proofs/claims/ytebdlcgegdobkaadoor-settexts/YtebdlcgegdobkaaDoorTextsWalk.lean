/- SetTexts: the text of a set, and the set of a text. -/
import Derived.Test.YtebdlcgegdobkaaDoorRefParse
namespace Go.Proofs.YtebdlcgegdobkaaDoor
open Go.RowKit

set_option maxHeartbeats 1600000 in
theorem texts_any (s : Nat) (l : List UInt8) (hs : s < 4294967296) (hl : l.length ≤ 9223372036854775807) (w : World) :
    Calls Tryd.prog 4 #[.int .u32 (s : Int), Str l] w fun e w' => e = .returned (.bool true) ∧ Below w.heap.size w w' := by
  obtain ⟨b, hS, hbl, hsz, hsb⟩ := str_size l
  rw [hS]
  obtain ⟨p, hpS, hpl, hpz, hpb⟩ := str_size (pr s)
  have kp := fun w => print_any s hs w
  have kq := fun w => printr_any s hs w
  rw [hpS] at kp kq
  clear hpb
  replace hpS := hid hpS; replace hpl := hid hpl; replace hpz := hid hpz
  replace hS := hid hS
  by_cases h300 : 300 < l.length
  · have hcut : Str (l.take 300) = .string (b.extract 0 300) := by rw [hsb, str_cut]; simp [Str]
    have k1 := fun w => parse_any (l.take 300) (by simp; omega) w
    have k2 := fun w => parser_any (l.take 300) (by simp; omega) w
    rw [hcut] at k1 k2
    generalize (parseP (l.take 300)).1 = x at *
    generalize (parseP (l.take 300)).2 = y at *
    replace hcut := hid hcut; replace hsb := hid hsb; replace hbl := hid hbl
    have d : decide (300 < l.length) = true := by simpa using h300
    go_enter Tryd.func4, Tryd.ntmps4
    go_wp2_with fail
    refine (k1 _).mono ?_
    rintro e w1 ⟨rfl, hb1⟩
    go_wp2_with fail
    refine (k2 _).mono ?_
    rintro e w2 ⟨rfl, hb2⟩
    go_wp2_with fail
    refine (kp _).mono ?_
    rintro e w3 ⟨rfl, hb3⟩
    go_wp2_with fail
    refine (kq _).mono ?_
    rintro e w4 ⟨rfl, hb4⟩
    go_wp2_with fail
    refine (awake_any _).mono ?_
    rintro e w5 ⟨rfl, hb5⟩
    go_wp2
    go_ret
    exact ⟨rfl, bnext (bnext (bnext (bnext hb1 hb2) hb3) hb4) hb5⟩
  · have k1 := fun w => parse_any l (by omega) w
    have k2 := fun w => parser_any l (by omega) w
    rw [hS.out] at k1 k2
    generalize (parseP l).1 = x at *
    generalize (parseP l).2 = y at *
    replace hsb := hid hsb; replace hbl := hid hbl
    have d : decide (300 < l.length) = false := by simpa using h300
    go_enter Tryd.func4, Tryd.ntmps4
    go_wp2_with fail
    refine (k1 _).mono ?_
    rintro e w1 ⟨rfl, hb1⟩
    go_wp2_with fail
    refine (k2 _).mono ?_
    rintro e w2 ⟨rfl, hb2⟩
    go_wp2_with fail
    refine (kp _).mono ?_
    rintro e w3 ⟨rfl, hb3⟩
    go_wp2_with fail
    refine (kq _).mono ?_
    rintro e w4 ⟨rfl, hb4⟩
    go_wp2_with fail
    refine (awake_any _).mono ?_
    rintro e w5 ⟨rfl, hb5⟩
    go_wp2
    go_ret
    exact ⟨rfl, bnext (bnext (bnext (bnext hb1 hb2) hb3) hb4) hb5⟩

end Go.Proofs.YtebdlcgegdobkaaDoor
