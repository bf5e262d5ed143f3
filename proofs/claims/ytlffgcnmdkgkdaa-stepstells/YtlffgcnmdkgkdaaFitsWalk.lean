/- The law StepsFits answers true, whatever it is handed. -/
import Derived.Test.YtlffgcnmdkgkdaaRefFit
namespace Go.Proofs.Ytlffgcnmdkgkdaa
open Go.RowKit

theorem bnx {base : Nat} {w a b : World} (h : Below base w a) (hb : base ≤ a.heap.size) (k : Below a.heap.size a b) : Below base w b := h.trans (k.mono hb)

set_option maxRecDepth 100000 in
set_option maxHeartbeats 1000000 in
theorem fits_any (s : Option Addr) (n c : Nat) (C : List Cut) (a b m p q r : Int) (w : World) (hn : C.length = n) (hl : n * 16 ≤ 140737488355328) (hat : SAt w s C) :
    Calls Try.prog 4 #[.slice s n c, .agg #[.int .i64 a, .int .i64 b, .int .i64 m], .agg #[.int .i64 p, .int .i64 q, .int .i64 r]] w fun e w' => e = .returned (.bool true) ∧ Below w.heap.size w w' := by
  replace hn := hid hn
  replace hat := hid hat
  have b0 := two_new w (.cells #[.int .i64 a, .int .i64 b, .int .i64 m] 24) (.cells #[.int .i64 p, .int .i64 q, .int .i64 r] 24)
  have X0 := (Sp.new w a b m).below (below_lit _ (.cells #[.int .i64 p, .int .i64 q, .int .i64 r] 24))
  have Y0 := Sp.new (w.alloc (.cells #[.int .i64 a, .int .i64 b, .int .i64 m] 24)) p q r
  rw [size_alloc] at Y0
  have S0 := hat.out.below b0
  go_enter Try.func4, Try.ntmps4
  go_wp2_with fail
  revert b0 X0 Y0 S0
  generalize hw1 : (w.alloc (.cells #[.int .i64 a, .int .i64 b, .int .i64 m] 24)).alloc (.cells #[.int .i64 p, .int .i64 q, .int .i64 r] 24) = w1
  replace hw1 := hid hw1
  intro b0 X0 Y0 S0
  have g0 : w.heap.size < w1.heap.size := X0.lt
  have g1 : w.heap.size + 1 < w1.heap.size := Y0.lt
  generalize hg : w.heap.size = g at *
  replace hg := hid hg
  have xa := X0.c0
  have xm := X0.c2
  have yp := Y0.c0
  have S0d := S0.below (drew_below w1)
  have X0d := X0.below (drew_below w1)
  have Y0d := Y0.below (drew_below w1)
  have kC := copy_any s n c C w1.drew hn.out hl S0d
  go_region_held (fun w' : World => w'.cell? ⟨g, 0, none⟩ = some (.int .i64 a) ∧ w'.cell? ⟨g, 2, none⟩ = some (.int .i64 m) ∧ w'.cell? ⟨g + 1, 0, none⟩ = some (.int .i64 p))
    (first | exact ⟨X3.c0, X3.c2, Y3.c0⟩ | exact ⟨X2.c0, X2.c2, Y2.c0⟩ | exact ⟨xa, xm, yp⟩)
    (first
      | (go_at_call 7; refine kC.mono ?_; rintro e w2 ⟨a2, c2, rfl, o2, b2⟩; have X2 := X0d.below b2; have Y2 := Y0d.below b2)
      | (go_at_call 20; refine (fit_any a2 n c2 C a p m _ hn.out (by omega) o2.sat).mono ?_; rintro e w3 ⟨rfl, b3⟩; have X3 := X2.below b3; have Y3 := Y2.below b3))
  all_goals
    have S3 := (S0d.below b2).below b3
    have B1 := bnx b0 (by omega) (drew_below w1)
    have B2 := bnx B1 (by have := (drew_below w1).size; omega) b2
    have z2 := b2.size
    have z3 := b3.size
    have z1 := (drew_below w1).size
    have B3 := bnx B2 (by omega) b3
    have u3 := X3.c0
    have v3 := X3.c2
    have t3 := Y3.c0
    have hz3 : g ≤ w3.heap.size := by omega
    have kR := fitr_any s n c C a p m w3 hn.out (by omega) S3
    clear b0 B1 B2 b2 b3 z1 z2 z3 kC o2 X2 Y2 X0d Y0d S0d X0 Y0 S0 xa xm yp
    go_wp2_with fail
    refine kR.mono ?_
    rintro e w4 ⟨rfl, b4⟩
    have B4 := bnx B3 hz3 b4
    have hz4 : g ≤ w4.heap.size := by have := b4.size; omega
    clear kR b4 B3
    generalize ftA C a p m = FA at *
    go_wp2_with fail
    refine (awake_any _).mono ?_
    rintro e w7 ⟨rfl, b7⟩
    have B7 := bnx B4 hz4 b7
    go_wp2
    go_ret
    exact ⟨rfl, hg.out ▸ B7⟩

end Go.Proofs.Ytlffgcnmdkgkdaa
