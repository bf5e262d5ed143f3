/- What is kept of a list: those ahead of a name and behind it, those that are not over, all but the first of a name. -/
import Derived.Test.YtjfgpepecjkdnaaRf
namespace Go.Proofs.Ytjfgpepecjkdnaa
open Go.RowKit
set_option linter.unusedVariables false

theorem same_of (x y : ByteArray) : (x.toList == y.toList) = sameB x y := by
  unfold sameB
  by_cases h : x = y
  · rw [decide_eq_true h, h]; simp
  · rw [decide_eq_false h]
    rw [beq_eq_false_iff_ne]
    intro e
    rw [ByteArray.toList_eq, ByteArray.toList_eq] at e
    exact h (ByteArray.ext (Array.ext' e))

theorem cl36 (p : Prt) (g : Nat) (n : ByteArray) (w : World) (hg : w.cell? ⟨g, 0, none⟩ = some (.string n)) :
    Calls Try.prog 36 #[.agg (pc5 p).toArray, ptr g] w fun r w' => r = .returned (.bool (lessB p.name n)) ∧ Below w.heap.size w w' := by
  obtain ⟨x, s, k, l, da, dn, dc⟩ := p
  simp only [pc5]
  have hlt := World.block_lt_of_cell? w _ hg
  have hg2 := stay (below_lit w (.cells #[.string x, .int .u32 s, .int .i64 k, .int .i64 l, .slice da dn dc] 38)) hg
  have h1 := less_of x n
  go_enter Try.func36, Try.ntmps36
  go_wp2
  go_ret
  exact ⟨by first | rfl | rw [h1], below_lit _ _⟩

theorem cl37 (p : Prt) (g : Nat) (n : ByteArray) (w : World) (hg : w.cell? ⟨g, 0, none⟩ = some (.string n)) :
    Calls Try.prog 37 #[.agg (pc5 p).toArray, ptr g] w fun r w' => r = .returned (.bool (!(lessB p.name n || sameB p.name n))) ∧ Below w.heap.size w w' := by
  obtain ⟨x, s, k, l, da, dn, dc⟩ := p
  simp only [pc5]
  have hlt := World.block_lt_of_cell? w _ hg
  have hg2 := stay (below_lit w (.cells #[.string x, .int .u32 s, .int .i64 k, .int .i64 l, .slice da dn dc] 38)) hg
  have h1 := less_of x n
  have h2 := same_of x n
  go_enter Try.func37, Try.ntmps37
  go_wp2
  go_ret
  exact ⟨by first | rfl | rw [h1, h2], below_lit _ _⟩

theorem cl25 (p : Prt) (g : Nat) (n : Int) (w : World) (hg : w.cell? ⟨g, 0, none⟩ = some (.int .i64 n)) :
    Calls Try.prog 25 #[.agg (pc5 p).toArray, ptr g] w fun r w' => r = .returned (.bool (decide (n < p.most))) ∧ Below w.heap.size w w' := by
  obtain ⟨x, s, k, l, da, dn, dc⟩ := p
  simp only [pc5]
  have hlt := World.block_lt_of_cell? w _ hg
  have hg2 := stay (below_lit w (.cells #[.string x, .int .u32 s, .int .i64 k, .int .i64 l, .slice da dn dc] 38)) hg
  go_enter Try.func25, Try.ntmps25
  go_wp2
  go_ret
  exact ⟨rfl, below_lit _ _⟩

theorem cl21 (p : Prt) (g : Nat) (n : ByteArray) (w : World) (hg : w.cell? ⟨g, 0, none⟩ = some (.string n)) :
    Calls Try.prog 21 #[.agg (pc5 p).toArray, ptr g] w fun r w' => r = .returned (.bool (sameB p.name n)) ∧ Below w.heap.size w w' := by
  obtain ⟨x, s, k, l, da, dn, dc⟩ := p
  simp only [pc5]
  have hlt := World.block_lt_of_cell? w _ hg
  have hg2 := stay (below_lit w (.cells #[.string x, .int .u32 s, .int .i64 k, .int .i64 l, .slice da dn dc] 38)) hg
  have h2 := same_of x n
  go_enter Try.func21, Try.ntmps21
  go_wp2
  go_ret
  exact ⟨by first | rfl | rw [h2], below_lit _ _⟩

/-- Drop's closure: the first of that name is not kept, and it is noted. -/
theorem cl24 (p : Prt) (g g2 : Nat) (d : Bool) (n : ByteArray) (w : World) (hg : w.heap[g]? = some (.cells #[.bool d] 4 (0, 0))) (hg2 : w.cell? ⟨g2, 0, none⟩ = some (.string n)) :
    Calls Try.prog 24 #[.agg (pc5 p).toArray, ptr g, ptr g2] w fun r w' => r = .returned (.bool (d || !sameB p.name n)) ∧ Kp (fun b => b = g) w w' ∧ w'.heap[g]? = some (.cells #[.bool (d || sameB p.name n)] 4 (0, 0)) := by
  obtain ⟨x, s, k, l, da, dn, dc⟩ := p
  simp only [pc5]
  have hlt := (Array.getElem?_eq_some_iff.1 hg).1
  have hlt2 := World.block_lt_of_cell? w _ hg2
  have bl := below_lit w (.cells #[.string x, .int .u32 s, .int .i64 k, .int .i64 l, .slice da dn dc] 38)
  have q0 : (w.alloc (.cells #[.string x, .int .u32 s, .int .i64 k, .int .i64 l, .slice da dn dc] 38)).heap[g]? = some (.cells #[.bool d] 4 (0, 0)) := by rw [bl.block _ hlt]; exact hg
  have q1 := row_cell q0 0 (.bool d) rfl
  have q2 := stay bl hg2
  have q3 := row_free q0 0
  have h2 := same_of x n
  replace q0 := hid q0
  replace hg := hid hg
  cases d with
  | true =>
    go_enter Try.func24, Try.ntmps24
    go_wp2
    go_ret
    exact ⟨rfl, Kp.of_below bl, q0.out⟩
  | false =>
    cases hs : sameB x n with
    | false =>
      rw [hs] at h2
      go_enter Try.func24, Try.ntmps24
      go_wp2
      go_ret
      exact ⟨rfl, Kp.of_below bl, q0.out⟩
    | true =>
      rw [hs] at h2
      go_enter Try.func24, Try.ntmps24
      go_wp2
      go_ret
      have hb9 := below_lit (w.setCell ⟨g, 0, none⟩ (.bool true)) (.cells #[.string x, .int .u32 s, .int .i64 k, .int .i64 l, .slice da dn dc] 38)
      refine ⟨rfl, (Kp.setCell (S := fun b => b = g) (Kp.refl _ w) (p := ⟨g, 0, none⟩) rfl _).then hb9, ?_⟩
      rw [hb9.block _ (by simpa [World.setCell] using hlt), setCell_eq_setRow _ _ _ _ _ _ _ hg.out]
      exact setRow_heap _ _ _ _ _ _ hg.out

def hasT (V : List Vw) (n : ByteArray) : Nat → Bool
  | 0 => false
  | j + 1 => hasT V n j || sameB (vAt V j).name n
/-- Which are kept: all but the first of that name. -/
def dfl (V : List Vw) (n : ByteArray) (j : Nat) : Bool := hasT V n j || !sameB (vAt V j).name n
theorem dr_snoc (n : ByteArray) (v : Vw) : ∀ V : List Vw, drP (V ++ [v]) n = if V.any (fun x => sameB x.name n) = true then drP V n ++ [v] else if v.name = n then V else V ++ [v]
  | [] => by simp [drP]
  | x :: r => by
    simp only [List.cons_append, drP, List.any_cons]
    by_cases hx : x.name = n
    · rw [if_pos hx, if_pos hx]; simp [sameB, hx]
    · rw [if_neg hx, if_neg hx, dr_snoc n v r]
      have e0 : sameB x.name n = false := decide_eq_false hx
      rw [e0, Bool.false_or]
      cases r.any (fun x => sameB x.name n) with
      | true => rfl
      | false =>
        by_cases hv : v.name = n
        · simp [hv]
        · simp [hv]
theorem dr_none (n : ByteArray) : ∀ V : List Vw, V.any (fun x => sameB x.name n) = false → drP V n = V
  | [], _ => rfl
  | x :: r, h => by
    simp only [List.any_cons, Bool.or_eq_false_iff] at h
    have hx : ¬ x.name = n := of_decide_eq_false h.1
    unfold drP
    rw [if_neg hx, dr_none n r h.2]
theorem has_any2 (V : List Vw) (n : ByteArray) : ∀ j, j ≤ V.length → hasT V n j = (V.take j).any fun x => sameB x.name n
  | 0, _ => by simp [hasT]
  | j + 1, h => by
    unfold hasT
    rw [has_any2 V n j (by omega), take_more (by omega : j < V.length), List.any_append, vAt_eq]
    simp
theorem sel_drop (V : List Vw) (n : ByteArray) : ∀ j, j ≤ V.length → selT V (dfl V n) j = drP (V.take j) n
  | 0, _ => by simp [selT, drP]
  | j + 1, h => by
    have hj : j < V.length := by omega
    unfold selT
    rw [sel_drop V n j (by omega), take_more hj, vAt_eq, dr_snoc]
    unfold dfl
    rw [has_any2 V n j (by omega)]
    cases ha : (V.take j).any fun x => sameB x.name n with
    | true => simp
    | false =>
      rw [dr_none n _ ha]
      by_cases hx : (vAt V j).name = n
      · simp [sameB, hx]
      · simp [sameB, hx]

/-- What a state of these functions hands on. -/
theorem kp_false {w w' : World} (h : Kp (fun _ => False) w w') : Below w.heap.size w w' := h.below (fun _ h => h.elim) (Nat.le_refl _)

theorem few_of {cn : Nat} {A : List Acc} {M : List (Prt × List ByteArray)} {w : World} {a : Option Addr} {k : Nat} (hR : RL w a k M) (h : ∀ v ∈ M.map vw, mayB cn A v = true) : ∀ p ∈ M, p.1.dn ≤ 1000 := fun p hp => by
  have h1 := h (vw p) (List.mem_map.2 ⟨p, hp, rfl⟩)
  unfold mayB rusrB userB at h1
  simp only [Bool.and_eq_true, decide_eq_true_eq] at h1
  have h2 := h1.2.2.1
  have h3 := (hR.inn p hp).1
  have : (vw p).T = p.2 := rfl
  rw [this] at h2
  omega

set_option maxRecDepth 100000 in
theorem expire_any (a : Option Addr) (k c : Nat) (now : Int) (M : List (Prt × List ByteArray)) (w : World) (hR : RL w a k M) (hk : k ≤ 1000) (hd : ∀ p ∈ M, p.1.dn ≤ 1000) :
    Calls Try.prog 12 #[.slice a k c, .int .i64 now] w fun e w' => ∃ ra n rc M', e = .returned (.slice ra n rc) ∧ n ≤ rc ∧ RL w' ra n M' ∧ M'.map vw = exP (M.map vw) now ∧ (∀ p ∈ M', p.1.dn ≤ 1000) ∧ Below w.heap.size w w' := by
  have bl := below_lit w (.cells #[.int .i64 now] 2)
  have hc := cell_new w (.int .i64 now) 2
  obtain ⟨W0, hW0⟩ : ∃ W0, W0 = w.alloc (.cells #[.int .i64 now] 2) := ⟨_, rfl⟩
  rw [← hW0] at bl hc
  have hV : (M.map vw).length = k := by rw [List.length_map]; exact hR.len
  have kK := kept25 a k c w.heap.size M (fun _ => False) (fun _ w' => w'.cell? ⟨w.heap.size, 0, none⟩ = some (.int .i64 now)) (fun j => decide (now < (vAt (M.map vw) j).to)) W0 hk hd
    (fun w' h => hR.below (bnext bl (kp_false h))) (fun _ h => h.elim) hc (fun j w' w'' h hb => by rw [hb.cell (by have := World.block_lt_of_cell? W0 _ hc; exact this)]; exact h)
    (fun j hj w' hk' hst => by
      have hjM : j < M.length := by rw [hR.len]; exact hj
      refine (cl25 (mAt M j).1 w.heap.size now w' hst).mono ?_
      rintro e w'' ⟨rfl, hb⟩
      exact ⟨by rw [vAt_vw hjM]; rfl, Kp.of_below hb, stay hb hst⟩)
  replace hR := hid hR
  go_enter Try.func12, Try.ntmps12
  go_wp2_with fail
  rw [← hW0]
  replace hW0 := hid hW0
  refine kK.mono ?_
  rintro e w1 ⟨ra, n, rc, M', rfl, hn, hl, hO, hv, _, hk1⟩
  go_wp2
  go_ret
  have hln : n ≤ k := by
    have h1 : (M'.map vw).length = n := by rw [List.length_map]; exact hl
    rw [hv] at h1
    have := sel_len (M.map vw) (fun j => decide (now < (vAt (M.map vw) j).to)) k
    omega
  refine ⟨ra, n, rc, M', rfl, hn, hO.rl hl (by omega), ?_, fun p hp => (hO.few p hp).2.1, bnext bl (kp_false hk1)⟩
  rw [hv, sel_filter (M.map vw) (fun v => decide (now < v.to)) k (by omega), ← hV, List.take_length]
  rfl

set_option maxRecDepth 100000 in
theorem drop_any (a : Option Addr) (k c : Nat) (nm : ByteArray) (M : List (Prt × List ByteArray)) (w : World) (hR : RL w a k M) (hk : k ≤ 1000) (hd : ∀ p ∈ M, p.1.dn ≤ 1000) :
    Calls Try.prog 11 #[.slice a k c, .string nm] w fun e w' => (∃ ra n rc M', e = .returned (.tuple #[.slice ra n rc, .int .i64 0]) ∧ n ≤ rc ∧ RL w' ra n M' ∧ M'.map vw = drP (M.map vw) nm ∧ (∀ p ∈ M', p.1.dn ≤ 1000) ∧ Below w.heap.size w w') ∨ (e = .returned (.tuple #[.slice none 0 0, .int .i64 141]) ∧ Below w.heap.size w w') := by
  obtain ⟨W0, hW0⟩ : ∃ W0, W0 = (w.alloc (.cells #[.string nm] 9)).alloc (.cells #[.bool false] 4) := ⟨_, rfl⟩
  have b1 := below_lit w (.cells #[.string nm] 9)
  have b2 := below_lit (w.alloc (.cells #[.string nm] 9)) (.cells #[.bool false] 4)
  have hz : (w.alloc (.cells #[.string nm] 9)).heap.size = w.heap.size + 1 := size_lit _ _
  have bl : Below w.heap.size w W0 := by rw [hW0]; exact bnext b1 b2
  have hc : W0.cell? ⟨w.heap.size, 0, none⟩ = some (.string nm) := by rw [hW0]; exact stay b2 (cell_new w (.string nm) 9)
  have hg : W0.heap[w.heap.size + 1]? = some (.cells #[.bool false] 4 (0, 0)) := by rw [hW0, ← hz]; exact heap_alloc_new _ _
  have hsz : W0.heap.size = w.heap.size + 1 + 1 := by rw [hW0, size_lit, hz]
  have hV : (M.map vw).length = k := by rw [List.length_map]; exact hR.len
  have kK := kept24 a k c (w.heap.size + 1) w.heap.size M (fun b => b = w.heap.size + 1) (fun j w' => w'.heap[w.heap.size + 1]? = some (.cells #[.bool (hasT (M.map vw) nm j)] 4 (0, 0)) ∧ w'.cell? ⟨w.heap.size, 0, none⟩ = some (.string nm)) (dfl (M.map vw) nm) W0 hk hd
    (fun w' h => hR.below (bl.trans (h.below (base := w.heap.size) (fun b hb => by omega) (by omega)))) (fun b h => by omega) ⟨hg, hc⟩
    (fun j w' w'' h hb => ⟨by rw [hb.block _ (by omega)]; exact h.1, by rw [hb.cell (show (⟨w.heap.size, 0, none⟩ : Addr).block < W0.heap.size by dsimp only; omega)]; exact h.2⟩)
    (fun j hj w' hk' hst => by
      have hjM : j < M.length := by rw [hR.len]; exact hj
      have e1 : (mAt M j).1.name = (vAt (M.map vw) j).name := by rw [vAt_vw hjM]; rfl
      refine (cl24 (mAt M j).1 (w.heap.size + 1) w.heap.size _ nm w' hst.1 hst.2).mono ?_
      rintro e w'' ⟨rfl, hb, hh⟩
      rw [e1] at hh
      exact ⟨by rw [e1]; rfl, hb, hh, stayK hb (by dsimp only; omega) hst.2⟩)
  replace hR := hid hR
  go_enter Try.func11, Try.ntmps11
  go_wp2_with fail
  rw [← hW0]
  replace hW0 := hid hW0
  refine kK.mono ?_
  rintro e w1 ⟨ra, n, rc, M', rfl, hn, hl, hO, hv, ⟨hgd, _⟩, hk1⟩
  have B1 : Below w.heap.size w w1 := bl.trans (hk1.below (base := w.heap.size) (fun b hb => by omega) (by omega))
  have q1 := row_cell hgd 0 _ rfl
  have hln : n ≤ k := by
    have h1 : (M'.map vw).length = n := by rw [List.length_map]; exact hl
    rw [hv] at h1
    have := sel_len (M.map vw) (dfl (M.map vw) nm) k
    omega
  have hM' : M'.map vw = drP (M.map vw) nm := by
    rw [hv, sel_drop _ _ _ (by omega), ← hV, List.take_length]
  replace hgd := hid hgd
  replace hv := hid hv
  replace hM' := hid hM'
  replace hl := hid hl
  have hlt1 := World.block_lt_of_cell? w1 _ q1
  clear kK
  cases hh : hasT (M.map vw) nm k with
  | true =>
    rw [hh] at q1
    replace hh := hid hh
    go_wp2
    go_ret2
    exact .inl ⟨ra, n, rc, M', rfl, hn, hO.rl hl.out (by omega), hM'.out, fun p hp => (hO.few p hp).2.1, B1⟩
  | false =>
    rw [hh] at q1
    replace hh := hid hh
    go_wp2
    go_ret2
    exact .inr ⟨rfl, B1⟩

end Go.Proofs.Ytjfgpepecjkdnaa
