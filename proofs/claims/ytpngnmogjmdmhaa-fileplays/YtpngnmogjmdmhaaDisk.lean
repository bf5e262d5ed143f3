/- A disk's block; what the atomic numbers, isOne, isFile, disarm, New, stops and admit do. -/
import Derived.Test.YtpngnmogjmdmhaaKeep
import Derived.Test.YtpngnmogjmdmhaaPlain
import Derived.Laws.LoneSync
import Derived.Deep.RegionWith
namespace Go.Proofs.Ytpngnmogjmdmhaa
open Go.RowKit

theorem hid {p : Prop} (h : p) : Hid p := h

/-- The disk's block: the six slices of bytes are F 0 .. F 5 (durable, current by turns), the changes' slice u. -/
def DBlk (w : World) (p : Nat) (mk dn : Bool) (F : Nat → Value) (u : Value) (a b e : Int) : Prop :=
  w.heap[p]? = some (.cells #[.bool mk, .bool dn, F 0, F 1, F 2, F 3, F 4, F 5, u, .int .i64 a, .int .i64 b, .int .i64 e] 61 (0, 0))

section
variable {w : World} {p : Nat} {mk dn : Bool} {F : Nat → Value} {u : Value} {a b e : Int}
theorem DBlk.c0 (h : DBlk w p mk dn F u a b e) : w.cell? ⟨p, 0, none⟩ = some (.bool mk) := by unfold DBlk at h; simp [World.cell?, h]
theorem DBlk.c1 (h : DBlk w p mk dn F u a b e) : w.cell? ⟨p, 1, none⟩ = some (.bool dn) := by unfold DBlk at h; simp [World.cell?, h]
theorem DBlk.cF (h : DBlk w p mk dn F u a b e) (j : Nat) (hj : j < 6) : w.cell? ⟨p, 2 + j, none⟩ = some (F j) := by
  unfold DBlk at h
  match j, hj with
  | 0, _ | 1, _ | 2, _ | 3, _ | 4, _ | 5, _ => simp [World.cell?, h]
theorem DBlk.c8 (h : DBlk w p mk dn F u a b e) : w.cell? ⟨p, 8, none⟩ = some u := by unfold DBlk at h; simp [World.cell?, h]
theorem DBlk.c9 (h : DBlk w p mk dn F u a b e) : w.cell? ⟨p, 9, none⟩ = some (.int .i64 a) := by unfold DBlk at h; simp [World.cell?, h]
theorem DBlk.c10 (h : DBlk w p mk dn F u a b e) : w.cell? ⟨p, 10, none⟩ = some (.int .i64 b) := by unfold DBlk at h; simp [World.cell?, h]
theorem DBlk.c11 (h : DBlk w p mk dn F u a b e) : w.cell? ⟨p, 11, none⟩ = some (.int .i64 e) := by unfold DBlk at h; simp [World.cell?, h]
theorem DBlk.free (h : DBlk w p mk dn F u a b e) (i : Nat) : w.frozen? ⟨p, i, none⟩ = false := by unfold DBlk at h; simp [World.frozen?, h]
theorem DBlk.lt (h : DBlk w p mk dn F u a b e) : p < w.heap.size := (Array.getElem?_eq_some_iff.1 h).1
theorem DBlk.kp {S : Nat → Prop} {w' : World} (h : DBlk w p mk dn F u a b e) (hk : Kp S w w') (hn : ¬ S p) : DBlk w' p mk dn F u a b e := by
  unfold DBlk; rw [hk.block p h.lt hn]; exact h
theorem DBlk.below {w' : World} (h : DBlk w p mk dn F u a b e) (hb : Below w.heap.size w w') : DBlk w' p mk dn F u a b e := h.kp (S := fun _ => False) (Kp.of_below hb) (fun h => h)
theorem DBlk.set1 (h : DBlk w p mk dn F u a b e) (x : Bool) : DBlk (w.setCell ⟨p, 1, none⟩ (.bool x)) p mk x F u a b e := by
  unfold DBlk at *; rw [setCell_eq_setRow w p 1 _ 61 (0, 0) _ h, setRow_heap w p _ _ 61 _ h]; simp
theorem DBlk.set8 (h : DBlk w p mk dn F u a b e) (x : Value) : DBlk (w.setCell ⟨p, 8, none⟩ x) p mk dn F x a b e := by
  unfold DBlk at *; rw [setCell_eq_setRow w p 8 _ 61 (0, 0) _ h, setRow_heap w p _ _ 61 _ h]; simp
theorem DBlk.set9 (h : DBlk w p mk dn F u a b e) (x : Int) : DBlk (w.setCell ⟨p, 9, none⟩ (.int .i64 x)) p mk dn F u x b e := by
  unfold DBlk at *; rw [setCell_eq_setRow w p 9 _ 61 (0, 0) _ h, setRow_heap w p _ _ 61 _ h]; simp
theorem DBlk.set10 (h : DBlk w p mk dn F u a b e) (x : Int) : DBlk (w.setCell ⟨p, 10, none⟩ (.int .i64 x)) p mk dn F u a x e := by
  unfold DBlk at *; rw [setCell_eq_setRow w p 10 _ 61 (0, 0) _ h, setRow_heap w p _ _ 61 _ h]; simp
theorem DBlk.set11 (h : DBlk w p mk dn F u a b e) (x : Int) : DBlk (w.setCell ⟨p, 11, none⟩ (.int .i64 x)) p mk dn F u a b x := by
  unfold DBlk at *; rw [setCell_eq_setRow w p 11 _ 61 (0, 0) _ h, setRow_heap w p _ _ 61 _ h]; simp
theorem DBlk.setF (h : DBlk w p mk dn F u a b e) (j : Nat) (hj : j < 6) (x : Value) : DBlk (w.setCell ⟨p, 2 + j, none⟩ x) p mk dn (fun i => if i = j then x else F i) u a b e := by
  unfold DBlk at *; rw [setCell_eq_setRow w p (2 + j) _ 61 (0, 0) _ h, setRow_heap w p _ _ 61 _ h]
  match j, hj with
  | 0, _ | 1, _ | 2, _ | 3, _ | 4, _ | 5, _ => simp
theorem DBlk.set2 (h : DBlk w p mk dn F u a b e) (F' : Nat → Value) (j : Nat) (hj : j < 3) (hF : ∀ i, i < 6 → i ≠ 2 * j → i ≠ 2 * j + 1 → F' i = F i) :
    DBlk ((w.setCell ⟨p, 2 + 2 * j, none⟩ (F' (2 * j))).setCell ⟨p, 2 + (2 * j + 1), none⟩ (F' (2 * j + 1))) p mk dn F' u a b e := by
  have h1 := (h.setF (2 * j) (by omega) (F' (2 * j))).setF (2 * j + 1) (by omega) (F' (2 * j + 1))
  unfold DBlk at *
  rw [h1]
  match j, hj, hF with
  | 0, _, hF => simp [hF 2, hF 3, hF 4, hF 5]
  | 1, _, hF => simp [hF 0, hF 1, hF 4, hF 5]
  | 2, _, hF => simp [hF 0, hF 1, hF 2, hF 3]
end

theorem store_law {w : World} {x : Addr} {y : Int} {u : Value} (hc : w.cell? x = some u) (hz : w.frozen? x = false) :
    (callFunc 53 #[.pointer (some x), .int .i64 y]).run Try.prog w = .ok (.value (.tuple #[])) (w.setCell x (.int .i64 y)) :=
  run_call_store Try.func53 (by kernel_rfl) (by kernel_rfl) (by kernel_rfl) (by kernel_rfl) hc hz

theorem load_law {w : World} {x : Addr} {y : Int} (hc : w.cell? x = some (.int .i64 y)) :
    (callFunc 54 #[.pointer (some x)]).run Try.prog w = .ok (.value (.int .i64 y)) w :=
  run_call_load Try.func54 (by kernel_rfl) (by kernel_rfl) (by kernel_rfl) .i64 (by kernel_rfl) hc

theorem add_law {w : World} {x : Addr} {y : Int} (h0 : -9223372036854775808 < y) (h1 : y ≤ 9223372036854775807) (hc : w.cell? x = some (.int .i64 y)) (hz : w.frozen? x = false) :
    (callFunc 62 #[.pointer (some x), .int .i64 (-1)]).run Try.prog w = .ok (.value (.int .i64 (y - 1))) (w.setCell x (.int .i64 (y - 1))) :=
  run_call_add Try.func62 (by kernel_rfl) (by kernel_rfl) (by kernel_rfl) .i64 (by kernel_rfl) hc hz (by
    simp [go_sem, IntKind.wrap_i64]
    omega)

theorem store_any (g o : Nat) (y : Int) (u : Value) (w : World) (hc : w.cell? ⟨g, o, none⟩ = some u) (hz : w.frozen? ⟨g, o, none⟩ = false) :
    Calls Try.prog 36 #[.pointer (some ⟨g, o, none⟩), .int .i64 y] w fun e w' => e = .returned (.tuple #[]) ∧ w' = w.setCell ⟨g, o, none⟩ (.int .i64 y) := by
  have hs := store_law (y := y) hc hz
  go_enter Try.func36, Try.ntmps36
  go_wp2
  go_end0
  exact ⟨rfl, rfl⟩

theorem load_any (g o : Nat) (y : Int) (w : World) (hc : w.cell? ⟨g, o, none⟩ = some (.int .i64 y)) :
    Calls Try.prog 37 #[.pointer (some ⟨g, o, none⟩)] w fun e w' => e = .returned (.int .i64 y) ∧ w' = w := by
  have hs := load_law hc
  go_enter Try.func37, Try.ntmps37
  go_wp2
  go_ret
  exact ⟨rfl, rfl⟩

theorem add_any (g o : Nat) (y : Int) (w : World) (h0 : -9223372036854775808 < y) (h1 : y ≤ 9223372036854775807) (hc : w.cell? ⟨g, o, none⟩ = some (.int .i64 y)) (hz : w.frozen? ⟨g, o, none⟩ = false) :
    Calls Try.prog 61 #[.pointer (some ⟨g, o, none⟩), .int .i64 (-1)] w fun e w' => e = .returned (.int .i64 (y - 1)) ∧ w' = w.setCell ⟨g, o, none⟩ (.int .i64 (y - 1)) := by
  have hs := add_law h0 h1 hc hz
  go_enter Try.func61, Try.ntmps61
  go_wp2
  go_ret
  exact ⟨rfl, rfl⟩

theorem isone_yes (p : Nat) (w : World) (h : w.cell? ⟨p, 0, none⟩ = some (.bool true)) :
    Calls Try.prog 30 #[.pointer (some ⟨p, 0, none⟩)] w fun e w' => e = .returned (.bool true) ∧ w' = w := by
  go_enter Try.func30, Try.ntmps30
  go_wp2
  go_ret
  exact ⟨rfl, rfl⟩

theorem isone_nil (w : World) :
    Calls Try.prog 30 #[.pointer none] w fun e w' => e = .returned (.bool false) ∧ w' = w := by
  go_enter Try.func30, Try.ntmps30
  go_wp2
  go_ret
  exact ⟨rfl, rfl⟩

theorem isone_zero (p : Nat) (w : World) (h : w.cell? ⟨p, 0, none⟩ = some (.bool false)) :
    Calls Try.prog 30 #[.pointer (some ⟨p, 0, none⟩)] w fun e w' => e = .returned (.bool false) ∧ w' = w := by
  go_enter Try.func30, Try.ntmps30
  go_wp2
  go_ret
  exact ⟨rfl, rfl⟩

theorem isfile_any (f : Int) (w : World) :
    Calls Try.prog 31 #[.int .i64 f] w fun e w' => e = .returned (.bool (decide (0 ≤ f ∧ f < 3))) ∧ w' = w := by
  by_cases h0 : 0 ≤ f
  · by_cases h1 : f < 3
    · have d0 : decide (0 ≤ f) = true := decide_eq_true h0
      have d1 : decide (f < 3) = true := decide_eq_true h1
      go_enter Try.func31, Try.ntmps31
      go_wp2
      go_ret
      first | exact ⟨rfl, rfl⟩ | exact ⟨ret_bool (by rw [Bool.eq_iff_iff]; simp; omega), rfl⟩
    · have d0 : decide (0 ≤ f) = true := decide_eq_true h0
      have d1 : decide (f < 3) = false := decide_eq_false h1
      go_enter Try.func31, Try.ntmps31
      go_wp2
      go_ret
      first | exact ⟨rfl, rfl⟩ | exact ⟨ret_bool (by rw [Bool.eq_iff_iff]; simp; omega), rfl⟩
  · have d0 : decide (0 ≤ f) = false := decide_eq_false h0
    go_enter Try.func31, Try.ntmps31
    go_wp2
    go_ret
    first | exact ⟨rfl, rfl⟩ | exact ⟨ret_bool (by rw [Bool.eq_iff_iff]; simp; omega), rfl⟩

theorem disarm_any (p : Nat) (mk dn : Bool) (F : Nat → Value) (u : Value) (a b e : Int) (w : World) (h : DBlk w p mk dn F u a b e) :
    Calls Try.prog 29 #[.pointer (some ⟨p, 0, none⟩)] w fun en w' => en = .returned (.tuple #[]) ∧ DBlk w' p mk dn F u (-1) (-1) 0 ∧ Kp (fun k => k = p) w w' := by
  go_enter Try.func29, Try.ntmps29
  go_wp2_with fail
  refine (store_any p 9 (-1) _ _ h.c9 (h.free 9)).mono ?_
  rintro en w1 ⟨rfl, rfl⟩
  have h1 := h.set9 (-1)
  have k1 : Kp (fun k => k = p) w (w.setCell ⟨p, 9, none⟩ (.int .i64 (-1))) := Kp.setCell (S := fun k => k = p) (p := ⟨p, 9, none⟩) (Kp.refl _ _) rfl _
  generalize w.setCell ⟨p, 9, none⟩ (.int .i64 (-1)) = w1 at *
  go_wp2_with fail
  refine (store_any p 10 (-1) _ _ h1.c10 (h1.free 10)).mono ?_
  rintro en w2 ⟨rfl, rfl⟩
  have h2 := h1.set10 (-1)
  have k2 : Kp (fun k => k = p) w1 (w1.setCell ⟨p, 10, none⟩ (.int .i64 (-1))) := Kp.setCell (S := fun k => k = p) (p := ⟨p, 10, none⟩) (Kp.refl _ _) rfl _
  generalize w1.setCell ⟨p, 10, none⟩ (.int .i64 (-1)) = w2 at *
  have c11 := h2.c11
  have f11 := h2.free 11
  go_wp2
  go_end0
  exact ⟨rfl, h2.set11 0, (k1.trans k2).setCell (p := ⟨p, 11, none⟩) rfl _⟩

def nilF : Nat → Value := fun _ => .slice none 0 0

theorem stops_any (g o : Nat) (y : Int) (w : World) (h0 : -1 ≤ y) (h1 : y ≤ 9223372036854775807) (hc : w.cell? ⟨g, o, none⟩ = some (.int .i64 y)) (hz : w.frozen? ⟨g, o, none⟩ = false) :
    Calls Try.prog 51 #[.pointer (some ⟨g, o, none⟩)] w fun e w' => e = .returned (.bool (decide (y = 0))) ∧ w' = (if y = -1 then w else w.setCell ⟨g, o, none⟩ (.int .i64 (less y))) := by
  by_cases hy : y = -1
  · subst hy
    go_enter Try.func51, Try.ntmps51
    go_wp2_with fail
    refine (load_any g o (-1) _ hc).mono ?_
    rintro en w1 ⟨rfl, rfl⟩
    go_wp2
    go_ret
    exact ⟨rfl, rfl⟩
  · have d0 : (y == -1) = false := beq_eq_false_iff_ne.2 hy
    go_enter Try.func51, Try.ntmps51
    go_wp2_with fail
    refine (load_any g o y _ hc).mono ?_
    rintro en w1 ⟨rfl, rfl⟩
    go_wp2_with fail
    refine (add_any g o y _ (by omega) h1 hc hz).mono ?_
    rintro en w1 ⟨rfl, rfl⟩
    go_wp2
    go_ret
    refine ⟨ret_bool ?_, ?_⟩
    · rw [Bool.eq_iff_iff]; simp; omega
    · unfold less; rw [if_neg hy]

theorem less_one : less (-1) = -1 := rfl

theorem stops9 (p : Nat) (mk dn : Bool) (F : Nat → Value) (u : Value) (a b e : Int) (w : World) (h0 : -1 ≤ a) (h1 : a ≤ 9223372036854775807) (h : DBlk w p mk dn F u a b e) :
    Calls Try.prog 51 #[.pointer (some ⟨p, 9, none⟩)] w fun en w' => en = .returned (.bool (decide (a = 0))) ∧ DBlk w' p mk dn F u (less a) b e ∧ Kp (fun k => k = p) w w' := by
  refine (stops_any p 9 a w h0 h1 h.c9 (h.free 9)).mono ?_
  rintro en w' ⟨rfl, rfl⟩
  refine ⟨rfl, ?_⟩
  split
  · rename_i hy; subst hy; rw [less_one]; exact ⟨h, Kp.refl _ _⟩
  · exact ⟨h.set9 _, Kp.setCell (S := fun k => k = p) (p := ⟨p, 9, none⟩) (Kp.refl _ _) rfl _⟩

theorem stops10 (p : Nat) (mk dn : Bool) (F : Nat → Value) (u : Value) (a b e : Int) (w : World) (h0 : -1 ≤ b) (h1 : b ≤ 9223372036854775807) (h : DBlk w p mk dn F u a b e) :
    Calls Try.prog 51 #[.pointer (some ⟨p, 10, none⟩)] w fun en w' => en = .returned (.bool (decide (b = 0))) ∧ DBlk w' p mk dn F u a (less b) e ∧ Kp (fun k => k = p) w w' := by
  refine (stops_any p 10 b w h0 h1 h.c10 (h.free 10)).mono ?_
  rintro en w' ⟨rfl, rfl⟩
  refine ⟨rfl, ?_⟩
  split
  · rename_i hy; subst hy; rw [less_one]; exact ⟨h, Kp.refl _ _⟩
  · exact ⟨h.set10 _, Kp.setCell (S := fun k => k = p) (p := ⟨p, 10, none⟩) (Kp.refl _ _) rfl _⟩

theorem new_blk (w : World) :
    Calls Try.prog 9 #[] w fun e w' => ∃ p, e = .returned (.pointer (some ⟨p, 0, none⟩)) ∧ w.heap.size ≤ p ∧ DBlk w' p true false nilF (.slice none 0 0) (-1) (-1) 0 ∧ Below w.heap.size w w' := by
  go_enter Try.func9, Try.ntmps9
  go_wp2_with fail
  have h : DBlk (w.alloc (.cells #[.bool true, .bool false, nilF 0, nilF 1, nilF 2, nilF 3, nilF 4, nilF 5, .slice none 0 0, .int .i64 0, .int .i64 0, .int .i64 0] 61)) w.heap.size true false nilF (.slice none 0 0) 0 0 0 := heap_alloc_new w _
  refine (disarm_any w.heap.size true false nilF _ 0 0 0 _ h).mono ?_
  rintro en w1 ⟨rfl, h1, k1⟩
  go_wp2
  go_ret
  exact ⟨_, rfl, Nat.le_refl _, h1, (below_lit w _).trans (k1.below (fun k hk => by omega) (below_lit w _).size)⟩

set_option maxRecDepth 100000 in
set_option maxHeartbeats 2000000 in
/-- What admit leaves of the block. -/
theorem admit_blk (p : Nat) (mk dn : Bool) (F : Nat → Value) (u : Value) (a b e : Int) (w : World) (ha0 : -1 ≤ a) (ha1 : a ≤ 9223372036854775807) (hb0 : -1 ≤ b) (hb1 : b ≤ 9223372036854775807) (h : DBlk w p mk dn F u a b e) :
    Calls Try.prog 32 #[.pointer (some ⟨p, 0, none⟩)] w fun en w' => en = .returned (.int .i64 (if dn then 6 else if a = 0 then 6 else if b = 0 then e else 0)) ∧
      DBlk w' p mk (dn || decide (a = 0)) F u (if dn then a else less a) (if dn then b else less b) e ∧ Kp (fun k => k = p) w w' := by
  have c1 := h.c1
  cases dn with
  | true =>
    have hh := hid h
    clear h
    go_enter Try.func32, Try.ntmps32
    go_wp2
    go_ret
    exact ⟨rfl, hh.out, Kp.refl _ _⟩
  | false =>
    go_enter Try.func32, Try.ntmps32
    go_wp2_with fail
    have hd : DBlk w.drew p mk false F u a b e := h
    go_region_with (first | (go_at_call 51; have hx := h1; refine (stops10 p mk false F u (less a) b e _ hb0 hb1 h1).mono ?_; rintro en w2 ⟨rfl, h2, k2⟩) | (go_at_call 51; refine (stops9 p mk false F u a b e _ ha0 ha1 hd).mono ?_; rintro en w1 ⟨rfl, h1, k1⟩))
    all_goals
      have c1 := h2.c1
      have f1 := h2.free 1
      have c11 := h2.c11
      have hk : Kp (fun k => k = p) w w2 := Kp.trans (b := w.drew) (Kp.of_below ((Below.refl _ _).drew)) (k1.trans k2)
      by_cases ha : a = 0
      · have ea : decide (a = 0) = true := decide_eq_true ha
        simp only [ea]
        go_wp2
        go_ret
        refine ⟨?_, ?_, hk.setCell (p := ⟨p, 1, none⟩) rfl _⟩
        · simp
        · simpa [ha] using h2.set1 true
      · have ea : decide (a = 0) = false := decide_eq_false ha
        by_cases hb : b = 0
        · have eb : decide (b = 0) = true := decide_eq_true hb
          simp only [ea, eb]
          go_wp2
          go_ret
          refine ⟨?_, ?_, hk⟩
          · simp
          · simpa [ha, hb] using h2
        · have eb : decide (b = 0) = false := decide_eq_false hb
          simp only [ea, eb]
          go_wp2
          go_ret
          refine ⟨?_, ?_, hk⟩
          · simp
          · simpa [ha] using h2
end Go.Proofs.Ytpngnmogjmdmhaa
