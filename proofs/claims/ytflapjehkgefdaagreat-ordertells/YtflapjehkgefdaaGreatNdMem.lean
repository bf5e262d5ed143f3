/- Nodes in memory; rows of the call's own that are written over; what a right node is. -/
import Derived.Test.YtflapjehkgefdaaGreatNdRef
import Derived.Laws.CopyRow
import Derived.BigQuiet
namespace Go.Proofs.YtflapjehkgefdaaGreat.Nd
open Go.RowKit

/-- A node: its cores, whether it is up, its epoch. -/
abbrev Nod := Int × Bool × Int

def nc (x : Nod) : List Value := [.int .i64 x.1, .bool x.2.1, .int .i64 x.2.2]
def nv (x : Nod) : Value := .agg #[.int .i64 x.1, .bool x.2.1, .int .i64 x.2.2]
def nodAt (L : List Nod) (i : Nat) : Nod := L.getD i (0, false, 0)

theorem nodAt_eq {L : List Nod} {i : Nat} (h : i < L.length) : L[i] = nodAt L i := by simp [nodAt, h]

def DAt (w : World) (a : Option Addr) (L : List Nod) : Prop := CAt w a (L.flatMap nc)
def DOwn (w : World) (base : Nat) (v : Value) (L : List Nod) : Prop := w.ownsRow base 104 3 v L.length (L.flatMap nc)

theorem info38 : (Tryz.prog.info? 104).map (fun i => (i.zero, i.size, i.bytes)) = some (some (.agg #[.int .i64 0, .bool false, .int .i64 0]), 3, 24) := by kernel_rfl

theorem nc_len (C : List Nod) : (C.flatMap nc).length = C.length * 3 := by
  induction C with
  | nil => rfl
  | cons q r ih => simp [nc, ih]; omega

theorem nc_get : ∀ (Q : List Nod) (i r : Nat) (hi : i < Q.length) (_ : r < 3), (Q.flatMap nc)[i * 3 + r]? = (nc Q[i])[r]?
  | [], i, r, hi, _ => by simp at hi
  | q :: t, 0, r, hi, hr => by
    simp only [List.flatMap_cons, Nat.zero_mul, Nat.zero_add, List.getElem_cons_zero]
    rw [List.getElem?_append_left (by simp [nc]; omega)]
  | q :: t, i + 1, r, hi, hr => by
    simp only [List.flatMap_cons, List.getElem_cons_succ]
    rw [List.getElem?_append_right (by simp [nc]; omega)]
    have := nc_get t i r (by simpa using hi) hr
    rw [← this]
    congr 1
    simp [nc]; omega

theorem nc_ne {R : List Nod} (h : 0 < R.length) : R.flatMap nc ≠ [] := by
  intro e
  have h1 := nc_len R
  rw [e] at h1
  simp at h1
  omega

theorem nc_one (Z : List Nod) : ∀ u ∈ Z.flatMap nc, u.oneCell' = true := by
  intro u hu
  obtain ⟨x, _, hx⟩ := List.mem_flatMap.1 hu
  simp [nc] at hx
  rcases hx with rfl | rfl | rfl <;> rfl

theorem three_one (x : Nod) : ∀ u ∈ [Value.int .i64 x.1, .bool x.2.1, .int .i64 x.2.2], u.oneCell' = true := by
  intro u hu
  simp at hu
  rcases hu with rfl | rfl | rfl <;> rfl

theorem nc_snoc (L : List Nod) (x : Nod) : (L ++ [x]).flatMap nc = L.flatMap nc ++ [.int .i64 x.1, .bool x.2.1, .int .i64 x.2.2] := by simp [nc]

theorem take_more {α : Type} {L : List α} {j : Nat} (h : j < L.length) : L.take (j + 1) = L.take j ++ [L[j]] := by
  rw [List.take_add_one, List.getElem?_eq_getElem h]; rfl

theorem DAt.place {w : World} {a : Option Addr} {C : List Nod} (h : DAt w a C) (h0 : 0 < C.length) : ∃ b o, a = some ⟨b, o, none⟩ := by
  obtain ⟨b, o, e, _⟩ := h (nc_ne h0)
  exact ⟨b, o, e⟩

theorem DAt.one {w : World} {b o : Nat} {C : List Nod} (h : DAt w (some ⟨b, o, none⟩) C) {i : Nat} (hi : i < C.length) :
    w.cell? ⟨b, o + i * 3, none⟩ = some (.int .i64 (nodAt C i).1) ∧ w.cell? ⟨b, o + i * 3 + 1, none⟩ = some (.bool (nodAt C i).2.1) ∧ w.cell? ⟨b, o + i * 3 + 2, none⟩ = some (.int .i64 (nodAt C i).2.2) := by
  obtain ⟨b', o', e, hc⟩ := h (nc_ne (by omega))
  cases e
  have key : ∀ r (hr : r < 3), w.cell? ⟨b, o + (i * 3 + r), none⟩ = some ((nc C[i])[r]'(by simp [nc]; omega)) := fun r hr => by
    have hlt : i * 3 + r < (C.flatMap nc).length := by rw [nc_len]; omega
    rw [hc _ hlt]
    have := nc_get C i r hi hr
    rw [List.getElem?_eq_getElem hlt, List.getElem?_eq_getElem (by simp [nc]; omega)] at this
    exact this
  have k0 := key 0 (by omega)
  have k1 := key 1 (by omega)
  have k2 := key 2 (by omega)
  rw [nodAt_eq hi] at k0 k1 k2
  exact ⟨k0, k1, k2⟩

theorem DAt.below {w w' : World} {a : Option Addr} {C : List Nod} (h : DAt w a C) (hb : Below w.heap.size w w') : DAt w' a C := CAt.below h hb
theorem DAt.kp {S : Nat → Prop} {w w' : World} {a : Option Addr} {C : List Nod} (h : DAt w a C) (hk : Kp S w w') (hn : ∀ x, a = some x → ¬ S x.block) : DAt w' a C := CAt.kp h hk hn
theorem DAt.nil (w : World) (a : Option Addr) : DAt w a [] := CAt.nil w a
theorem DAt.lt {w : World} {b o : Nat} {C : List Nod} (h : DAt w (some ⟨b, o, none⟩) C) (h0 : 0 < C.length) : b < w.heap.size := World.block_lt_of_cell? w _ (h.one h0).1
theorem DAt.take {w : World} {a : Option Addr} {C : List Nod} (h : DAt w a C) (k : Nat) : DAt w a (C.take k) := by
  intro hne
  have hpos : 0 < C.length := by
    rcases Nat.eq_zero_or_pos C.length with h0 | h0
    · exact absurd (by rw [List.eq_nil_of_length_eq_zero h0]; simp) hne
    · exact h0
  obtain ⟨b, o, e, hc⟩ := h (nc_ne hpos)
  refine ⟨b, o, e, fun i hi => ?_⟩
  have hsp : C.flatMap nc = (C.take k).flatMap nc ++ (C.drop k).flatMap nc := by rw [← List.flatMap_append, List.take_append_drop]
  have hi2 : i < (C.flatMap nc).length := by rw [hsp, List.length_append]; omega
  rw [hc i hi2]
  congr 1
  simp only [hsp]
  rw [List.getElem_append_left hi]

theorem DOwn.dat {w : World} {base n c : Nat} {a : Option Addr} {C : List Nod} (h : DOwn w base (.slice a n c) C) : DAt w a C := owns_cat h
theorem DOwn.below {w w' : World} {base : Nat} {v : Value} {C : List Nod} (h : DOwn w base v C) (hb : Below w.heap.size w w') : DOwn w' base v C := owns_below h hb
theorem DOwn.low {w : World} {base base' : Nat} {v : Value} {C : List Nod} (h : DOwn w base v C) (hb : base' ≤ base) : DOwn w base' v C := owns_low h hb
theorem DOwn.nil (w : World) (base : Nat) : DOwn w base (.slice none 0 0) [] := World.ownsRow_nil _ _ _ _

/-- A row that has cells lies at the head of a block of its own, which may be written. -/
theorem owns_spot {w : World} {base e size n : Nat} {v : Value} {xs : List Value} (h : w.ownsRow base e size v n xs) (h0 : 0 < n) : ∃ g c, v = .slice (some ⟨g, 0, none⟩) n c ∧ base ≤ g ∧ g < w.heap.size ∧ n ≤ c ∧ ∀ i, w.frozen? ⟨g, i, none⟩ = false := by
  rcases h.2 with ⟨_, hn⟩ | ⟨g, cap, cur, rfl, hb, hg, hc, _⟩
  · omega
  · exact ⟨g, cap, rfl, hb, (Array.getElem?_eq_some_iff.1 hg).1, hc, fun i => by simp [World.frozen?, hg]⟩

theorem owns_put {w : World} {base e size n g c i : Nat} {xs : List Value} (h : w.ownsRow base e size (.slice (some ⟨g, 0, none⟩) n c) n xs) (hi : i < n * size) (u : Value) :
    (w.setCell ⟨g, i, none⟩ u).ownsRow base e size (.slice (some ⟨g, 0, none⟩) n c) n (xs.set i u) := by
  refine ⟨by rw [List.length_set]; exact h.1, ?_⟩
  rcases h.2 with ⟨hv, hn⟩ | ⟨g', cap, cur, hv, hb, hg, hc, hm, hs, ht⟩
  · subst hn; omega
  · simp only [Value.slice.injEq, Option.some.injEq, Addr.mk.injEq] at hv
    obtain ⟨⟨rfl, _, _⟩, _, rfl⟩ := hv
    refine .inr ⟨g, c, cur.setIfInBounds i u, rfl, hb, ?_, hc, hm, by simpa using hs, ?_⟩
    · rw [setCell_eq_setRow w g i cur e (0, 0) u hg, setRow_heap w g cur _ e _ hg]
    · rw [← ht]
      simp [List.take_set]

theorem nc_set {L : List Nod} {i : Nat} (hi : i < L.length) (x : Nod) : ∀ r v, r < 3 → (nc L[i]).set r v = nc x → (L.flatMap nc).set (i * 3 + r) v = (L.set i x).flatMap nc := by
  intro r v hr he
  induction L generalizing i with
  | nil => simp at hi
  | cons q t ih =>
    cases i with
    | zero =>
      simp only [List.flatMap_cons, Nat.zero_mul, Nat.zero_add, List.set_cons_zero, List.getElem_cons_zero] at he ⊢
      rw [List.set_append_left _ _ (by simp [nc]; omega), he]
    | succ k =>
      simp only [List.flatMap_cons, List.set_cons_succ, List.getElem_cons_succ] at he ⊢
      rw [List.set_append_right _ _ (by simp [nc]; omega)]
      have := ih (by simpa using hi) he
      rw [← this]
      congr 2
      simp [nc]; omega

/-- One part of one node is written. -/
theorem DOwn.set {w : World} {base n g c i : Nat} {L : List Nod} (h : DOwn w base (.slice (some ⟨g, 0, none⟩) n c) L) (hn : L.length = n) (hi : i < n) (x : Nod) (r : Nat) (v : Value) (hr : r < 3) (he : (nc (nodAt L i)).set r v = nc x) :
    DOwn (w.setCell ⟨g, i * 3 + r, none⟩ v) base (.slice (some ⟨g, 0, none⟩) n c) (L.set i x) := by
  subst hn
  unfold DOwn at *
  rw [← nc_set hi x r v hr (by rw [nodAt_eq hi]; exact he), List.length_set]
  exact owns_put h (by omega) v

/-- May this node stand in a right list? -/
def nodB (x : Nod) : Bool := decide (1 ≤ x.1 ∧ x.1 ≤ 64 ∧ 1 ≤ x.2.2 ∧ x.2.2 ≤ 1073741824)

def rightB (L : List Nod) : Bool := decide (1 ≤ L.length ∧ L.length ≤ 32) && L.all nodB

theorem below_drewN {w w' : World} {base : Nat} (h : Below base w w') (n : Nat) : Below base w (w'.drewN n) := h.trans ⟨rfl, rfl, rfl, Nat.le_refl _, fun _ _ => rfl⟩
theorem drew_below (w : World) : Below w.heap.size w w.drew := (Below.refl _ _).drew
theorem stay {w w' : World} {p : Addr} {v : Value} (hb : Below w.heap.size w w') (h : w.cell? p = some v) : w'.cell? p = some v := by
  rw [hb.cell (World.block_lt_of_cell? w p h)]; exact h

theorem isnode_any (c : Int) (u : Bool) (e : Int) (w : World) : Calls Tryz.prog 93 #[.agg #[.int .i64 c, .bool u, .int .i64 e]] w fun r w' => r = .returned (.bool (nodB (c, u, e))) ∧ Below w.heap.size w w' := by
  by_cases h1 : 1 ≤ c
  · have d1 : decide (1 ≤ c) = true := by simpa using h1
    by_cases h2 : c ≤ 64
    · have d2 : decide (c ≤ 64) = true := by simpa using h2
      by_cases h3 : 1 ≤ e
      · have d3 : decide (1 ≤ e) = true := by simpa using h3
        by_cases h4 : e ≤ 1073741824
        · have d4 : decide (e ≤ 1073741824) = true := by simpa using h4
          have hf := hid (show nodB (c, u, e) = true from decide_eq_true ⟨h1, h2, h3, h4⟩)
          go_enter Tryz.func93, Tryz.ntmps93
          go_wp2
          go_ret
          rw [hf.out]; exact ⟨rfl, below_lit _ _⟩
        · have d4 : decide (e ≤ 1073741824) = false := by simpa using h4
          have hf := hid (show nodB (c, u, e) = false from decide_eq_false fun h => h4 h.2.2.2)
          go_enter Tryz.func93, Tryz.ntmps93
          go_wp2
          go_ret
          rw [hf.out]; exact ⟨rfl, below_lit _ _⟩
      · have d3 : decide (1 ≤ e) = false := by simpa using h3
        have hf := hid (show nodB (c, u, e) = false from decide_eq_false fun h => h3 h.2.2.1)
        go_enter Tryz.func93, Tryz.ntmps93
        go_wp2
        go_ret
        rw [hf.out]; exact ⟨rfl, below_lit _ _⟩
    · have d2 : decide (c ≤ 64) = false := by simpa using h2
      have hf := hid (show nodB (c, u, e) = false from decide_eq_false fun h => h2 h.2.1)
      go_enter Tryz.func93, Tryz.ntmps93
      go_wp2
      go_ret
      rw [hf.out]; exact ⟨rfl, below_lit _ _⟩
  · have d1 : decide (1 ≤ c) = false := by simpa using h1
    have hf := hid (show nodB (c, u, e) = false from decide_eq_false fun h => h1 h.1)
    go_enter Tryz.func93, Tryz.ntmps93
    go_wp2
    go_ret
    rw [hf.out]; exact ⟨rfl, below_lit _ _⟩

theorem notnode_any (c : Int) (u : Bool) (e : Int) (w : World) : Calls Tryz.prog 92 #[.agg #[.int .i64 c, .bool u, .int .i64 e]] w fun r w' => r = .returned (.bool (!nodB (c, u, e))) ∧ Below w.heap.size w w' := by
  have kN := fun w => isnode_any c u e w
  generalize nodB (c, u, e) = B at *
  go_enter Tryz.func92, Tryz.ntmps92
  go_wp2_with fail
  have bl := below_lit w (.cells #[.int .i64 c, .bool u, .int .i64 e] 104)
  refine (kN _).mono ?_
  rintro r w1 ⟨rfl, hb1⟩
  have B1 := bnext bl hb1
  go_wp2
  go_ret
  exact ⟨rfl, B1⟩

end Go.Proofs.YtflapjehkgefdaaGreat.Nd
