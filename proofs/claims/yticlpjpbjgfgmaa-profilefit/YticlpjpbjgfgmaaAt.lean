/- Flat, At, Least and Fit of the program. -/
import Derived.Test.YticlpjpbjgfgmaaEach
namespace Go.Proofs.Yticlpjpbjgfgmaa
open Go.RowKit

/-- A block of one cell. -/
def One (w : World) (g : Nat) (v : Value) (t : Nat) : Prop := w.heap[g]? = some (.cells #[v] t (0, 0))

theorem One.cell {w : World} {g t : Nat} {v : Value} (h : One w g v t) : w.cell? ⟨g, 0, none⟩ = some v := cell_of_one h
theorem One.free {w : World} {g t : Nat} {v : Value} (h : One w g v t) : w.frozen? ⟨g, 0, none⟩ = false := free_of_one h
theorem One.set {w : World} {g t : Nat} {v : Value} (h : One w g v t) (u : Value) : One (w.setCell ⟨g, 0, none⟩ u) g u t := one_setCell h
theorem One.new (w : World) (v : Value) (t : Nat) : One (w.alloc (.cells #[v] t)) w.heap.size v t := heap_alloc_new w _
theorem One.lt {w : World} {g t : Nat} {v : Value} (h : One w g v t) : g < w.heap.size := (Array.getElem?_eq_some_iff.1 h).1
theorem One.below {w w' : World} {g t : Nat} {v : Value} (h : One w g v t) (hb : Below w.heap.size w w') : One w' g v t := by
  unfold One; rw [hb.block g h.lt]; exact h
theorem One.kp {S : Nat → Prop} {w w' : World} {g t : Nat} {v : Value} (h : One w g v t) (hk : Kp S w w') (hn : ¬ S g) : One w' g v t := by
  unfold One; rw [hk.block g h.lt hn]; exact h
theorem One.drew {w : World} {g t : Nat} {v : Value} (h : One w g v t) : One w.drew g v t := h

theorem kp_one {w : World} {g : Nat} (u : Value) : Kp (fun k => k = g) w (w.setCell ⟨g, 0, none⟩ u) := Kp.setCell (S := fun k => k = g) (p := ⟨g, 0, none⟩) (Kp.refl _ _) rfl u

def flatA (n : Int) : List Cut × Int := if isV n then ([(0, n)], 0) else ([], 2)

theorem flat_any (n : Int) (w : World) : Calls Try.prog 28 #[.int .i64 n] w fun e w' => ∃ a c, e = .returned (.tuple #[.slice a (flatA n).1.length c, .int .i64 (flatA n).2]) ∧ SOwn w' w.heap.size (.slice a (flatA n).1.length c) (flatA n).1 ∧ Below w.heap.size w w' := by
  by_cases h : isV n
  · have hf := hid (show flatA n = ([(0, n)], 0) from if_pos h)
    have kV := isvalue_any n w
    rw [isVB_iff.2 h] at kV
    go_enter Try.func28, Try.ntmps28
    go_wp2_with fail
    refine kV.mono ?_
    rintro e w1 ⟨rfl, rfl⟩
    go_wp2
    go_ret2
    rw [hf.out]
    exact ⟨_, _, rfl, SOwn.lit _ _ _, below_lit _ _⟩
  · have hf := hid (show flatA n = ([], 2) from if_neg h)
    have kV := isvalue_any n w
    rw [isVB_no h] at kV
    go_enter Try.func28, Try.ntmps28
    go_wp2_with fail
    refine kV.mono ?_
    rintro e w1 ⟨rfl, rfl⟩
    go_wp2
    go_ret2
    rw [hf.out]
    exact ⟨_, _, rfl, SOwn.nil _ _, Below.refl _ _⟩

end Go.Proofs.Yticlpjpbjgfgmaa
