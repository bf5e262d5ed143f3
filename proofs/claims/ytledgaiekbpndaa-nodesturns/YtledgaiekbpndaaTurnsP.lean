/- Nodes that go down and up by turns: what stays, plain; rows of truth values and of epochs beside them. -/
import Derived.Test.YtledgaiekbpndaaAwake
namespace Go.Proofs.Ytledgaiekbpndaa
open Go.RowKit

/-- Behind i turns, of nodes that were made of the cores Z. -/
structure GI (Z : List Int) (i : Nat) (L : List Nod) : Prop where
  len : L.length = Z.length
  co : ∀ k, k < L.length → (nodAt L k).1 = Z.getD k 0
  right : rightB L = true
  ep : ∀ k, k < L.length → (nodAt L k).2.2 ≤ 1 + i

theorem GI.mono {Z : List Int} {i : Nat} {L : List Nod} (h : GI Z i L) : GI Z (i + 1) L := ⟨h.len, h.co, h.right, fun k hk => by have := h.ep k hk; omega⟩

theorem GI.new {Z : List Int} (h : rightB (mkN Z) = true) : GI Z 0 (mkN Z) := by
  refine ⟨mkN_len Z, ?_, h, ?_⟩ <;> intro k hk <;> rw [← nodAt_eq hk] <;> rw [mkN_len] at hk <;> simp [mkN, hk]

theorem nodAt_ne {L : List Nod} {k j : Nat} (h : ¬ k = j) (x : Nod) : nodAt (L.set k x) j = nodAt L j := by
  simp [nodAt, h]

theorem right_set {L : List Nod} {k : Nat} {x : Nod} (h : rightB L = true) (hx : nodB x = true) : rightB (L.set k x) = true := by
  obtain ⟨h1, h2⟩ := right_is h
  rw [right_len (by rw [List.length_set]; exact h1), List.all_eq_true]
  intro y hy
  rcases List.mem_or_eq_of_mem_set hy with h3 | h3
  · exact h2 y h3
  · rw [h3]; exact hx

theorem nod_ok {L : List Nod} {k : Nat} (h : rightB L = true) (hk : k < L.length) : 1 ≤ (nodAt L k).1 ∧ (nodAt L k).1 ≤ 64 ∧ 1 ≤ (nodAt L k).2.2 ∧ (nodAt L k).2.2 ≤ 1073741824 := by
  have := (right_is h).2 _ (List.getElem_mem hk)
  rw [nodAt_eq hk] at this
  exact of_decide_eq_true this

theorem GI.fail {Z : List Int} {i : Nat} {L : List Nod} (h : GI Z i L) {k : Nat} (hk : k < L.length) : GI Z (i + 1) (failN L k) := by
  have ho := nod_ok h.right hk
  have hl : (failN L k).length = L.length := by unfold failN; rw [List.length_set]
  refine ⟨by rw [hl]; exact h.len, ?_, right_set h.right (decide_eq_true ho), ?_⟩
  · intro j hj
    rw [hl] at hj
    by_cases e : k = j
    · subst e; unfold failN; rw [nodAt_set hk]; exact h.co k hk
    · unfold failN; rw [nodAt_ne e]; exact h.co j hj
  · intro j hj
    rw [hl] at hj
    by_cases e : k = j
    · subst e; unfold failN; rw [nodAt_set hk]; have := h.ep k hk; dsimp only; omega
    · unfold failN; rw [nodAt_ne e]; have := h.ep j hj; omega

theorem GI.rise {Z : List Int} {i : Nat} {L : List Nod} (h : GI Z i L) (hi : i < 200) {k : Nat} (hk : k < L.length) : GI Z (i + 1) (riseN L k) := by
  have ho := nod_ok h.right hk
  have he := h.ep k hk
  have hl : (riseN L k).length = L.length := by unfold riseN; rw [List.length_set]
  refine ⟨by rw [hl]; exact h.len, ?_, right_set h.right (decide_eq_true ⟨ho.1, ho.2.1, by dsimp only; omega, by dsimp only; omega⟩), ?_⟩
  · intro j hj
    rw [hl] at hj
    by_cases e : k = j
    · subst e; unfold riseN; rw [nodAt_set hk]; exact h.co k hk
    · unfold riseN; rw [nodAt_ne e]; exact h.co j hj
  · intro j hj
    rw [hl] at hj
    by_cases e : k = j
    · subst e; unfold riseN; rw [nodAt_set hk]; dsimp only; omega
    · unfold riseN; rw [nodAt_ne e]; have := h.ep j hj; omega

def ups (L : List Nod) : List Value := L.map fun x => .bool x.2.1
def eps (L : List Nod) : List Value := L.map fun x => .int .i64 x.2.2

theorem map_self {α β : Type} (f : α → β) (L : List α) (k : Nat) (hk : k < L.length) (x : α) (h : f x = f L[k]) : (L.set k x).map f = L.map f := by
  apply List.ext_getElem
  · simp
  · intro i h1 h2
    by_cases e : k = i
    · subst e; simpa using h
    · simp [e]

theorem ups_fail (L : List Nod) (k : Nat) : (ups L).set k (.bool false) = ups (failN L k) := by unfold ups failN; rw [List.map_set]
theorem ups_rise (L : List Nod) (k : Nat) : (ups L).set k (.bool true) = ups (riseN L k) := by unfold ups riseN; rw [List.map_set]
theorem eps_fail {L : List Nod} {k : Nat} (hk : k < L.length) : eps (failN L k) = eps L := by
  unfold eps failN; exact map_self _ L k hk _ (by rw [nodAt_eq hk])
theorem eps_rise (L : List Nod) (k : Nat) : (eps L).set k (.int .i64 ((nodAt L k).2.2 + 1)) = eps (riseN L k) := by unfold eps riseN; rw [List.map_set]

theorem ups_len (L : List Nod) : (ups L).length = L.length := by simp [ups]
theorem eps_len (L : List Nod) : (eps L).length = L.length := by simp [eps]

def UOwn (w : World) (base g n : Nat) (xs : List Value) : Prop := w.ownsRow base 4 1 (.slice (some ⟨g, 0, none⟩) n n) n xs
def EOwn (w : World) (base g n : Nat) (xs : List Value) : Prop := w.ownsRow base 3 1 (.slice (some ⟨g, 0, none⟩) n n) n xs

/-- Rows of unlike types lie in unlike blocks. -/
theorem owns_apart {w : World} {base base' e e' size size' m m' : Nat} {v v' : Value} {xs xs' : List Value} (h : w.ownsRow base e size v m xs) (hr : w.ownsRow base' e' size' v' m' xs') (he : e ≠ e') :
    ∀ k, v.ownBlock = some k → v'.ownBlock ≠ some k := by
  intro k hk ev
  rcases h.2 with ⟨hv, _⟩ | ⟨g, cap, cur, hv, _, hg, _⟩
  · rw [hv] at hk; cases hk
  · rcases hr.2 with ⟨hv', _⟩ | ⟨g', cap', cur', hv', _, hg', _⟩
    · rw [hv'] at ev; cases ev
    · rw [hv] at hk
      rw [hv'] at ev
      have e1 : g = k := Option.some.inj hk
      have e2 : g' = k := Option.some.inj ev
      subst e1
      rw [e2] at hg'
      rw [hg] at hg'
      simp only [Option.some.injEq, Obj.cells.injEq] at hg'
      exact he hg'.2.1

theorem row1 {w : World} {base e g n : Nat} {xs : List Value} (h : w.ownsRow base e 1 (.slice (some ⟨g, 0, none⟩) n n) n xs) {k : Nat} (hk : k < n) :
    g < w.heap.size ∧ base ≤ g ∧ w.frozen? ⟨g, k, none⟩ = false ∧ w.cell? ⟨g, k, none⟩ = some (xs[k]'(by rw [h.1]; omega)) := by
  obtain ⟨g', c', e, hb, hgl, _, hfz⟩ := owns_spot h (by omega)
  simp only [Value.slice.injEq, Option.some.injEq, Addr.mk.injEq] at e
  obtain ⟨⟨e, _, _⟩, _, _⟩ := e
  subst e
  have hl := h.1
  obtain ⟨b, o, e, hc⟩ := (owns_cat h) (by intro e; rw [e] at hl; simp at hl; omega)
  cases e
  have := hc k (by omega)
  rw [Nat.zero_add] at this
  exact ⟨hgl, hb, hfz k, this⟩

theorem kp_set (w : World) (g i : Nat) (u : Value) : Kp (fun k => k = g) w (w.setCell ⟨g, i, none⟩ u) := (Kp.refl (fun k => k = g) w).setCell (p := ⟨g, i, none⟩) rfl u

/-- The nodes s, the rows up and epoch. -/
structure TM (w0 : World) (n gu ge : Nat) (L : List Nod) (a : Option Addr) (c : Nat) (w : World) : Prop where
  s : DOwn w w0.heap.size (.slice a n c) L
  u : UOwn w w0.heap.size gu n (ups L)
  e : EOwn w w0.heap.size ge n (eps L)
  b : Below w0.heap.size w0 w
  ln : L.length = n
  lc : n ≤ c

theorem TM.below {w0 : World} {n gu ge : Nat} {L : List Nod} {a : Option Addr} {c : Nat} {w w' : World} (h : TM w0 n gu ge L a c w) (hb : Below w.heap.size w w') : TM w0 n gu ge L a c w' :=
  ⟨h.s.below hb, owns_below h.u hb, owns_below h.e hb, bnext h.b hb, h.ln, h.lc⟩

theorem TM.ne {w0 : World} {n gu ge : Nat} {L : List Nod} {a : Option Addr} {c : Nat} {w : World} (h : TM w0 n gu ge L a c w) : ¬ gu = ge := by
  intro e
  subst e
  exact owns_apart h.u h.e (by decide) gu rfl rfl

/-- Node k fails: another list in other memory, its place in the row up turned. -/
theorem TM.failed {w0 : World} {n gu ge : Nat} {L : List Nod} {a a' : Option Addr} {c c' : Nat} {w w' : World} (h : TM w0 n gu ge L a c w) (hb : Below w.heap.size w w') {k : Nat} (hk : k < n) (ho : DOwn w' w.heap.size (.slice a' n c') (failN L k)) (hc : n ≤ c') :
    TM w0 n gu ge (failN L k) a' c' (w'.setCell ⟨gu, k, none⟩ (.bool false)) := by
  have hu := owns_below h.u hb
  have he := owns_below h.e hb
  have hbase := (row1 h.u hk).2.1
  have hk1 := kp_set w' gu k (.bool false)
  refine ⟨owns_kp (ho.low h.b.size) hk1 fun j hj e => ?_, ?_, ?_, Below.setCell (p := ⟨gu, k, none⟩) (bnext h.b hb) hbase _, by unfold failN; rw [List.length_set]; exact h.ln, hc⟩
  · subst e
    exact owns_apart ho hu (by decide) j hj rfl
  · unfold UOwn
    rw [← ups_fail]
    exact owns_put hu (by omega) _
  · unfold EOwn
    rw [eps_fail (by rw [h.ln]; exact hk)]
    refine owns_kp he hk1 fun j hj e => ?_
    subst e
    exact owns_apart he hu (by decide) j hj rfl

theorem TM.risen {w0 : World} {n gu ge : Nat} {L : List Nod} {a a' : Option Addr} {c c' : Nat} {w w' : World} (h : TM w0 n gu ge L a c w) (hb : Below w.heap.size w w') {k : Nat} (hk : k < n) (ho : DOwn w' w.heap.size (.slice a' n c') (riseN L k)) (hc : n ≤ c') :
    TM w0 n gu ge (riseN L k) a' c' ((w'.setCell ⟨gu, k, none⟩ (.bool true)).setCell ⟨ge, k, none⟩ (.int .i64 ((nodAt L k).2.2 + 1))) := by
  have hu := owns_below h.u hb
  have he := owns_below h.e hb
  have hbase := (row1 h.u hk).2.1
  have hbase2 := (row1 h.e hk).2.1
  have hk1 := kp_set w' gu k (.bool true)
  have hk2 := kp_set (w'.setCell ⟨gu, k, none⟩ (.bool true)) ge k (.int .i64 ((nodAt L k).2.2 + 1))
  have hu1 := owns_put hu (i := k) (by omega) (.bool true)
  have he1 := owns_kp he hk1 fun j hj e => by
    subst e
    exact owns_apart he hu (by decide) j hj rfl
  have hs1 := owns_kp (ho.low h.b.size) hk1 fun j hj e => by
    subst e
    exact owns_apart ho hu (by decide) j hj rfl
  refine ⟨owns_kp hs1 hk2 fun j hj e => ?_, ?_, ?_, Below.setCell (p := ⟨ge, k, none⟩) (Below.setCell (p := ⟨gu, k, none⟩) (bnext h.b hb) hbase _) hbase2 _, by unfold riseN; rw [List.length_set]; exact h.ln, hc⟩
  · subst e
    exact owns_apart hs1 he1 (by decide) j hj rfl
  · unfold UOwn
    rw [← ups_rise]
    refine owns_kp hu1 hk2 fun j hj e => ?_
    subst e
    exact owns_apart hu1 he1 (by decide) j hj rfl
  · unfold EOwn
    rw [← eps_rise]
    exact owns_put he1 (by omega) _

theorem info4 : (Try.prog.info? 4).map (fun i => (i.zero, i.size, i.bytes)) = some (some (.bool false), 1, 1) := by kernel_rfl

end Go.Proofs.Ytledgaiekbpndaa
