/- The document's net: find, put, Send. -/
import Derived.Test.YtgjjgfppolmkoaaRefBase
namespace Go.Proofs.Ytgjjgfppolmkoaa
open Go.RowKit Go.Maps

/-- The place of a number among packets; -1. -/
def placeP : List Pk → Int → Int
  | [], _ => -1
  | q :: r, k => if q.num = k then 0 else if placeP r k = -1 then -1 else placeP r k + 1

/-- A net of the document in a block: its slice and its last number. -/
def RBlk (w : World) (g : Nat) (x y : Value) : Prop := w.heap[g]? = some (.cells #[x, y] 40 (0, 0))
theorem RBlk.new (w : World) (x y : Value) : RBlk (w.alloc (.cells #[x, y] 40)) w.heap.size x y := heap_alloc_new w _
section
variable {w : World} {g : Nat} {x y : Value}
theorem RBlk.lt (h : RBlk w g x y) : g < w.heap.size := (Array.getElem?_eq_some_iff.1 h).1
theorem RBlk.below {w' : World} (h : RBlk w g x y) (hb : Below w.heap.size w w') : RBlk w' g x y := by unfold RBlk; rw [hb.block g h.lt]; exact h
theorem RBlk.cell0 (h : RBlk w g x y) : w.cell? ⟨g, 0, none⟩ = some x := by unfold RBlk at h; simp [World.cell?, h]
theorem RBlk.cell1 (h : RBlk w g x y) : w.cell? ⟨g, 1, none⟩ = some y := by unfold RBlk at h; simp [World.cell?, h]
theorem RBlk.free (h : RBlk w g x y) (j : Nat) : w.frozen? ⟨g, j, none⟩ = false := by unfold RBlk at h; simp [World.frozen?, h]
theorem RBlk.set0 (h : RBlk w g x y) (v : Value) : RBlk (w.setCell ⟨g, 0, none⟩ v) g v y := by
  unfold RBlk at *; rw [setCell_eq_setRow w g 0 _ 40 (0, 0) _ h, setRow_heap w g _ _ 40 _ h]; simp
theorem RBlk.set1 (h : RBlk w g x y) (v : Value) : RBlk (w.setCell ⟨g, 1, none⟩ v) g x v := by
  unfold RBlk at *; rw [setCell_eq_setRow w g 1 _ 40 (0, 0) _ h, setRow_heap w g _ _ 40 _ h]; simp
end

theorem place_take : ∀ (R : List Pk) (k : Int) (j : Nat) (hj : j < R.length), (∀ i (h : i < j), (R[i]'(by omega)).num ≠ k) → R[j].num = k → placeP R k = j
  | q :: r, k, 0, _, _, h => by
    simp only [List.getElem_cons_zero] at h
    simp [placeP, h]
  | q :: r, k, j + 1, hj, hb, h => by
    have h0 : q.num ≠ k := hb 0 (by omega)
    have ih := place_take r k j (by simpa using hj) (fun i hi => hb (i + 1) (by omega)) h
    simp only [placeP, if_neg h0, ih]
    rw [if_neg (by omega)]
    omega

theorem place_none : ∀ (R : List Pk) (k : Int), (∀ q ∈ R, q.num ≠ k) → placeP R k = -1
  | [], _, _ => rfl
  | q :: r, k, h => by
    simp only [placeP, if_neg (h q (by simp)), place_none r k (fun x hx => h x (by simp [hx]))]
    rfl

set_option maxRecDepth 100000 in
set_option maxHeartbeats 400000 in
theorem rfind_any (a : Option Addr) (n c : Nat) (last k : Int) (R : List Pk) (w : World) (hR : R.length = n) (h : RAt w a R) (hn : n ≤ 1000000) :
    Calls Try.prog 41 #[.agg #[.slice a n c, .int .i64 last], .int .i64 k] w fun e w' => e = .returned (.int .i64 (placeP R k)) ∧ Below w.heap.size w w' := by
  have b1 := below_lit w (.cells #[.slice a n c, .int .i64 last] 40)
  have P1 := RBlk.new w (.slice a n c) (.int .i64 last)
  have h1 := h.below b1
  replace hR := hid hR
  go_enter Try.func41, Try.ntmps41
  go_wp2_with fail
  obtain ⟨g, hg⟩ : ∃ g, g = w.heap.size := ⟨_, rfl⟩
  rw [← hg] at P1 ⊢
  generalize w.alloc (.cells #[.slice a n c, .int .i64 last] 40) = w1 at *
  have c0 := P1.cell0
  replace P1 := hid P1
  replace hg := hid hg
  go_loop [5] (fun i => ∃ j : Nat, j ≤ n ∧ i = .int .i64 (j : Int) ∧ Hid (∀ i (h : i < j) (h2 : i < R.length), R[i].num ≠ k)) (fun i => n - (intOf i).toNat)
  case atStart => exact ⟨0, Nat.zero_le _, rfl, fun i h => absurd h (by omega)⟩
  case round =>
    obtain ⟨j, hj, rfl, hno⟩ := hrel
    by_cases hlt : j < n
    · have hjR : j < R.length := by rw [hR.out]; exact hlt
      obtain ⟨b, o, e⟩ := h1.place (by intro e; rw [e] at hjR; simp at hjR)
      subst e
      have x0 := (h1.packet j hjR).1
      by_cases he : R[j].num = k
      · rw [he] at x0
        have hpl := place_take R k j hjR (fun i hi => hno.out i hi (by omega)) he
        replace hpl := hid hpl
        replace he := hid he
        go_wp2
        go_ret
        exact ⟨ret_int hpl.out.symm, b1⟩
      · have hb : (R[j].num == k) = false := beq_eq_false_iff_ne.2 he
        have hno2 : Hid (∀ i (h : i < j + 1) (h2 : i < R.length), R[i].num ≠ k) := fun i hi h2 => by
          rcases Nat.lt_or_ge i j with h3 | h3
          · exact hno.out i h3 h2
          · obtain rfl : i = j := by omega
            exact he
        generalize R[j].num = X at x0 hb
        replace he := hid he
        go_wp2_with fail
        go_round
        case rel => exact ⟨j + 1, by omega, by go_num, hno2⟩
        case measure => simp [intOf]; omega
    · obtain rfl : j = n := by omega
      have hpl := place_none R k (fun q hq => by
        obtain ⟨i, hi, rfl⟩ := List.getElem_of_mem hq
        exact hno.out i (by rw [← hR.out]; exact hi) hi)
      replace hpl := hid hpl
      go_wp2
      go_ret
      exact ⟨ret_int hpl.out.symm, b1⟩

end Go.Proofs.Ytgjjgfppolmkoaa
