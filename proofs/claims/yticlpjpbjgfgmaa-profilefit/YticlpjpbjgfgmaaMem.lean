/- Cuts in memory; what a value, a window is; whether a cut may follow. -/
import Derived.Test.YticlpjpbjgfgmaaBase
import Derived.Deep.RegionHeld
import Derived.RegionTactic
namespace Go.Proofs.Yticlpjpbjgfgmaa
open Go.RowKit

theorem hid {p : Prop} (h : p) : Hid p := h

def cc (x : Cut) : List Value := [.int .i64 x.1, .int .i64 x.2]

/-- These cuts lie behind a. -/
def SAt (w : World) (a : Option Addr) (C : List Cut) : Prop := CAt w a (C.flatMap cc)
def SOwn (w : World) (base : Nat) (v : Value) (C : List Cut) : Prop := w.ownsRow base 40 2 v C.length (C.flatMap cc)

theorem info36 : (Try.prog.info? 40).map (fun i => (i.zero, i.size, i.bytes)) = some (some (.agg #[.int .i64 0, .int .i64 0]), 2, 16) := by kernel_rfl

theorem cc_len (C : List Cut) : (C.flatMap cc).length = C.length * 2 := by
  induction C with
  | nil => rfl
  | cons q r ih => simp [cc, ih]; omega

theorem cc_get : ∀ (Q : List Cut) (i r : Nat) (hi : i < Q.length) (_ : r < 2), (Q.flatMap cc)[i * 2 + r]? = (cc Q[i])[r]?
  | [], i, r, hi, _ => by simp at hi
  | q :: t, 0, r, hi, hr => by
    simp only [List.flatMap_cons, Nat.zero_mul, Nat.zero_add, List.getElem_cons_zero]
    rw [List.getElem?_append_left (by simp [cc]; omega)]
  | q :: t, i + 1, r, hi, hr => by
    simp only [List.flatMap_cons, List.getElem_cons_succ]
    rw [List.getElem?_append_right (by simp [cc]; omega)]
    have := cc_get t i r (by simpa using hi) hr
    rw [← this]
    congr 1
    simp [cc]; omega

theorem cc_ne {R : List Cut} (h : 0 < R.length) : R.flatMap cc ≠ [] := by
  intro e
  have h1 := cc_len R
  rw [e] at h1
  simp at h1
  omega

theorem cc_one (Z : List Cut) : ∀ u ∈ Z.flatMap cc, u.oneCell' = true := by
  intro u hu
  obtain ⟨x, _, hx⟩ := List.mem_flatMap.1 hu
  simp [cc] at hx
  rcases hx with rfl | rfl <;> rfl

theorem SAt.place {w : World} {a : Option Addr} {C : List Cut} (h : SAt w a C) (h0 : 0 < C.length) : ∃ b o, a = some ⟨b, o, none⟩ := by
  obtain ⟨b, o, e, _⟩ := h (cc_ne h0)
  exact ⟨b, o, e⟩

theorem SAt.one {w : World} {b o : Nat} {C : List Cut} (h : SAt w (some ⟨b, o, none⟩) C) {i : Nat} (hi : i < C.length) :
    w.cell? ⟨b, o + i * 2, none⟩ = some (.int .i64 (tm C i)) ∧ w.cell? ⟨b, o + i * 2 + 1, none⟩ = some (.int .i64 (fr C i)) := by
  obtain ⟨b', o', e, hc⟩ := h (cc_ne (by omega))
  cases e
  have key : ∀ r (hr : r < 2), w.cell? ⟨b, o + (i * 2 + r), none⟩ = some ((cc C[i])[r]'(by simp [cc]; omega)) := fun r hr => by
    have hlt : i * 2 + r < (C.flatMap cc).length := by rw [cc_len]; omega
    rw [hc _ hlt]
    have := cc_get C i r hi hr
    rw [List.getElem?_eq_getElem hlt, List.getElem?_eq_getElem (by simp [cc]; omega)] at this
    exact this
  have k0 := key 0 (by omega)
  have k1 := key 1 (by omega)
  rw [← tm_eq hi, ← fr_eq hi]
  exact ⟨k0, k1⟩

theorem SAt.below {w w' : World} {a : Option Addr} {C : List Cut} (h : SAt w a C) (hb : Below w.heap.size w w') : SAt w' a C := CAt.below h hb
theorem SAt.kp {S : Nat → Prop} {w w' : World} {a : Option Addr} {C : List Cut} (h : SAt w a C) (hk : Kp S w w') (hn : ∀ x, a = some x → ¬ S x.block) : SAt w' a C := CAt.kp h hk hn
theorem SAt.nil (w : World) (a : Option Addr) : SAt w a [] := CAt.nil w a
theorem SAt.lt {w : World} {b o : Nat} {C : List Cut} (h : SAt w (some ⟨b, o, none⟩) C) (h0 : 0 < C.length) : b < w.heap.size := World.block_lt_of_cell? w _ (h.one h0).1

theorem SOwn.sat {w : World} {base n c : Nat} {a : Option Addr} {C : List Cut} (h : SOwn w base (.slice a n c) C) : SAt w a C := owns_cat h
theorem SOwn.below {w w' : World} {base : Nat} {v : Value} {C : List Cut} (h : SOwn w base v C) (hb : Below w.heap.size w w') : SOwn w' base v C := owns_below h hb
theorem SOwn.low {w : World} {base base' : Nat} {v : Value} {C : List Cut} (h : SOwn w base v C) (hb : base' ≤ base) : SOwn w base' v C := owns_low h hb
theorem SOwn.nil (w : World) (base : Nat) : SOwn w base (.slice none 0 0) [] := World.ownsRow_nil _ _ _ _

theorem SOwn.lit (w : World) (a b : Int) : SOwn (w.alloc (.cells #[.int .i64 a, .int .i64 b] 40)) w.heap.size (.slice (some ⟨w.heap.size, 0, none⟩) 1 1) [(a, b)] := by
  refine ⟨rfl, .inr ⟨w.heap.size, 1, #[.int .i64 a, .int .i64 b], rfl, Nat.le_refl _, heap_alloc_new w _, Nat.le_refl _, ?_, rfl, rfl⟩⟩
  unfold maxLen; omega

def isVB (n : Int) : Bool := decide (isV n)
def winB (a b : Int) : Bool := decide (winP a b)
def folB (a b c d : Int) : Bool := decide (a < c ∧ b ≠ d)

theorem two_new (w : World) (x y : Obj) : Below w.heap.size w ((w.alloc x).alloc y) := bnext (below_lit w x) (below_lit _ y)

theorem isvalue_any (n : Int) (w : World) : Calls Try.prog 55 #[.int .i64 n] w fun e w' => e = .returned (.bool (isVB n)) ∧ w' = w := by
  by_cases h1 : 0 ≤ n
  · by_cases h2 : n ≤ 1073741824
    · have hf := hid (show isVB n = true from decide_eq_true ⟨h1, h2⟩)
      have d1 : decide (0 ≤ n) = true := by simpa using h1
      have d2 : decide (n ≤ 1073741824) = true := by simpa using h2
      go_enter Try.func55, Try.ntmps55
      go_wp2
      go_ret
      rw [hf.out]; exact ⟨rfl, rfl⟩
    · have hf := hid (show isVB n = false from decide_eq_false fun h => h2 h.2)
      have d1 : decide (0 ≤ n) = true := by simpa using h1
      have d2 : decide (n ≤ 1073741824) = false := by simpa using h2
      go_enter Try.func55, Try.ntmps55
      go_wp2
      go_ret
      rw [hf.out]; exact ⟨rfl, rfl⟩
  · have hf := hid (show isVB n = false from decide_eq_false fun h => h1 h.1)
    have d1 : decide (0 ≤ n) = false := by simpa using h1
    go_enter Try.func55, Try.ntmps55
    go_wp2
    go_ret
    rw [hf.out]; exact ⟨rfl, rfl⟩

theorem iswindow_any (a b : Int) (w : World) : Calls Try.prog 58 #[.int .i64 a, .int .i64 b] w fun e w' => e = .returned (.bool (winB a b)) ∧ w' = w := by
  by_cases h1 : 0 ≤ a
  · have d1 : decide (0 ≤ a) = true := by simpa using h1
    by_cases h2 : a < b
    · have d2 : decide (a < b) = true := by simpa using h2
      by_cases h3 : b ≤ 2199023255552
      · have hf := hid (show winB a b = true from decide_eq_true ⟨h1, h2, h3⟩)
        have d3 : decide (b ≤ 2199023255552) = true := by simpa using h3
        go_enter Try.func58, Try.ntmps58
        go_wp2
        go_ret
        rw [hf.out]; exact ⟨rfl, rfl⟩
      · have hf := hid (show winB a b = false from decide_eq_false fun h => h3 h.2.2)
        have d3 : decide (b ≤ 2199023255552) = false := by simpa using h3
        go_enter Try.func58, Try.ntmps58
        go_wp2
        go_ret
        rw [hf.out]; exact ⟨rfl, rfl⟩
    · have hf := hid (show winB a b = false from decide_eq_false fun h => h2 h.2.1)
      have d2 : decide (a < b) = false := by simpa using h2
      go_enter Try.func58, Try.ntmps58
      go_wp2
      go_ret
      rw [hf.out]; exact ⟨rfl, rfl⟩
  · have hf := hid (show winB a b = false from decide_eq_false fun h => h1 h.1)
    have d1 : decide (0 ≤ a) = false := by simpa using h1
    go_enter Try.func58, Try.ntmps58
    go_wp2
    go_ret
    rw [hf.out]; exact ⟨rfl, rfl⟩

theorem follows_any (a b c d : Int) (w : World) : Calls Try.prog 68 #[.agg #[.int .i64 a, .int .i64 b], .agg #[.int .i64 c, .int .i64 d]] w fun e w' => e = .returned (.bool (folB a b c d)) ∧ Below w.heap.size w w' := by
  by_cases h1 : a < c
  · have d1 : decide (a < c) = true := by simpa using h1
    by_cases h2 : b = d
    · have hf := hid (show folB a b c d = false from decide_eq_false fun h => h.2 h2)
      subst h2
      go_enter Try.func68, Try.ntmps68
      go_wp2
      go_ret
      rw [hf.out]; exact ⟨rfl, two_new _ _ _⟩
    · have hf := hid (show folB a b c d = true from decide_eq_true ⟨h1, h2⟩)
      have d2 : (b != d) = true := by simpa using h2
      go_enter Try.func68, Try.ntmps68
      go_wp2
      go_ret
      rw [hf.out]; exact ⟨rfl, two_new _ _ _⟩
  · have hf := hid (show folB a b c d = false from decide_eq_false fun h => h1 h.1)
    have d1 : decide (a < c) = false := by simpa using h1
    go_enter Try.func68, Try.ntmps68
    go_wp2
    go_ret
    rw [hf.out]; exact ⟨rfl, two_new _ _ _⟩

end Go.Proofs.Yticlpjpbjgfgmaa
