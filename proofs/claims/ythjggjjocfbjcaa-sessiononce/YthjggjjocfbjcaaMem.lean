/- Clients and askers in memory. -/
import Derived.Test.YthjggjjocfbjcaaPlain
import Derived.Test.YthjggjjocfbjcaaCat
import Derived.Deep.RegionWith
import Derived.Lib.SliceRun
namespace Go.Proofs.Ythjggjjocfbjcaa
open Go.RowKit

/-- A request with its bytes, and where they lie. -/
structure KV where
  num : Int
  a : Option Addr
  c : Nat
  body : List UInt8

def KV.cells (k : KV) : List Value := [.int .i64 k.num, .slice k.a k.body.length k.c]
def KV.flat (k : KV) : PK := (k.num, k.body)

/-- A client, and where what it keeps lies. -/
structure CV where
  id : Int
  fl : Int
  a : Option Addr
  c : Nat
  ks : List KV

def CV.cells (x : CV) : List Value := [.int .i64 x.id, .int .i64 x.fl, .slice x.a x.ks.length x.c]
def CV.flat (x : CV) : PC := (x.id, x.fl, x.ks.map KV.flat)

def SMALL : Nat := 140737488355328

/-- These requests can be read behind the address a; all of it lies in blocks from lo on. -/
structure KAt (w : World) (lo : Nat) (a : Option Addr) (ks : List KV) : Prop where
  row : CAt w a (ks.flatMap KV.cells)
  low : ∀ x, a = some x → lo ≤ x.block
  body : ∀ k ∈ ks, At w k.a k.body
  blow : ∀ k ∈ ks, ∀ x, k.a = some x → lo ≤ x.block
  short : ∀ k ∈ ks, k.body.length ≤ SMALL

/-- These clients can be read behind the address a. -/
structure LAt (w : World) (lo : Nat) (a : Option Addr) (L : List CV) : Prop where
  row : CAt w a (L.flatMap CV.cells)
  low : ∀ x, a = some x → lo ≤ x.block
  kept : ∀ c ∈ L, KAt w lo c.a c.ks

theorem KAt.kp {S : Nat → Prop} {w w' : World} {lo : Nat} {a : Option Addr} {ks : List KV} (h : KAt w lo a ks) (hk : Kp S w w') (hn : ∀ k, S k → k < lo) : KAt w' lo a ks :=
  ⟨h.row.kp hk (fun x hx e => by have := hn _ e; have := h.low x hx; omega), h.low, fun k hk' => (h.body k hk').kp hk (fun x hx e => by have := hn _ e; have := h.blow k hk' x hx; omega), h.blow, h.short⟩

theorem LAt.kp {S : Nat → Prop} {w w' : World} {lo : Nat} {a : Option Addr} {L : List CV} (h : LAt w lo a L) (hk : Kp S w w') (hn : ∀ k, S k → k < lo) : LAt w' lo a L :=
  ⟨h.row.kp hk (fun x hx e => by have := hn _ e; have := h.low x hx; omega), h.low, fun c hc => (h.kept c hc).kp hk hn⟩

theorem KAt.below {w w' : World} {lo : Nat} {a : Option Addr} {ks : List KV} (h : KAt w lo a ks) (hb : Below w.heap.size w w') : KAt w' lo a ks :=
  h.kp (S := fun _ => False) (Kp.of_below hb) (fun _ h => h.elim)

theorem LAt.below {w w' : World} {lo : Nat} {a : Option Addr} {L : List CV} (h : LAt w lo a L) (hb : Below w.heap.size w w') : LAt w' lo a L :=
  h.kp (S := fun _ => False) (Kp.of_below hb) (fun _ h => h.elim)

theorem KAt.le {w : World} {lo lo' : Nat} {a : Option Addr} {ks : List KV} (h : KAt w lo a ks) (hl : lo' ≤ lo) : KAt w lo' a ks :=
  ⟨h.row, fun x hx => Nat.le_trans hl (h.low x hx), h.body, fun k hk x hx => Nat.le_trans hl (h.blow k hk x hx), h.short⟩

theorem LAt.le {w : World} {lo lo' : Nat} {a : Option Addr} {L : List CV} (h : LAt w lo a L) (hl : lo' ≤ lo) : LAt w lo' a L :=
  ⟨h.row, fun x hx => Nat.le_trans hl (h.low x hx), fun c hc => (h.kept c hc).le hl⟩

theorem KAt.nil (w : World) (lo : Nat) : KAt w lo none [] := ⟨CAt.nil _ _, by simp, by simp, by simp, by simp⟩
theorem LAt.nil (w : World) (lo : Nat) : LAt w lo none [] := ⟨CAt.nil _ _, by simp, by simp⟩

theorem kcells_len (ks : List KV) : (ks.flatMap KV.cells).length = ks.length * 2 := by
  induction ks with
  | nil => rfl
  | cons q r ih => simp [KV.cells, ih]; omega

theorem ccells_len (L : List CV) : (L.flatMap CV.cells).length = L.length * 3 := by
  induction L with
  | nil => rfl
  | cons q r ih => simp [CV.cells, ih]; omega

theorem kcells_get : ∀ (Q : List KV) (i r : Nat) (hi : i < Q.length) (_ : r < 2), (Q.flatMap KV.cells)[i * 2 + r]? = (Q[i].cells)[r]?
  | [], i, r, hi, _ => by simp at hi
  | q :: t, 0, r, hi, hr => by
    simp only [List.flatMap_cons, Nat.zero_mul, Nat.zero_add, List.getElem_cons_zero]
    rw [List.getElem?_append_left (by simp [KV.cells]; omega)]
  | q :: t, i + 1, r, hi, hr => by
    simp only [List.flatMap_cons, List.getElem_cons_succ]
    rw [List.getElem?_append_right (by simp [KV.cells]; omega)]
    have := kcells_get t i r (by simpa using hi) hr
    rw [← this]
    congr 1
    simp [KV.cells]; omega

theorem ccells_get : ∀ (Q : List CV) (i r : Nat) (hi : i < Q.length) (_ : r < 3), (Q.flatMap CV.cells)[i * 3 + r]? = (Q[i].cells)[r]?
  | [], i, r, hi, _ => by simp at hi
  | q :: t, 0, r, hi, hr => by
    simp only [List.flatMap_cons, Nat.zero_mul, Nat.zero_add, List.getElem_cons_zero]
    rw [List.getElem?_append_left (by simp [CV.cells]; omega)]
  | q :: t, i + 1, r, hi, hr => by
    simp only [List.flatMap_cons, List.getElem_cons_succ]
    rw [List.getElem?_append_right (by simp [CV.cells]; omega)]
    have := ccells_get t i r (by simpa using hi) hr
    rw [← this]
    congr 1
    simp [CV.cells]; omega

theorem kcells_ne {R : List KV} (h : R ≠ []) : R.flatMap KV.cells ≠ [] := by
  intro e
  have h1 := kcells_len R
  rw [e] at h1
  have := List.length_pos_iff.2 h
  simp at h1
  omega

theorem ccells_ne {R : List CV} (h : R ≠ []) : R.flatMap CV.cells ≠ [] := by
  intro e
  have h1 := ccells_len R
  rw [e] at h1
  have := List.length_pos_iff.2 h
  simp at h1
  omega

theorem KAt.place {w : World} {lo : Nat} {a : Option Addr} {Q : List KV} (h : KAt w lo a Q) (hne : Q ≠ []) : ∃ b o, a = some ⟨b, o, none⟩ := by
  obtain ⟨b, o, e, _⟩ := h.row (kcells_ne hne)
  exact ⟨b, o, e⟩

theorem LAt.place {w : World} {lo : Nat} {a : Option Addr} {Q : List CV} (h : LAt w lo a Q) (hne : Q ≠ []) : ∃ b o, a = some ⟨b, o, none⟩ := by
  obtain ⟨b, o, e, _⟩ := h.row (ccells_ne hne)
  exact ⟨b, o, e⟩

theorem cat_k {w : World} {b o : Nat} {Q : List KV} (h : CAt w (some ⟨b, o, none⟩) (Q.flatMap KV.cells)) (i : Nat) (hi : i < Q.length) :
    w.cell? ⟨b, o + i * 2, none⟩ = some (.int .i64 Q[i].num) ∧ w.cell? ⟨b, o + i * 2 + 1, none⟩ = some (.slice Q[i].a Q[i].body.length Q[i].c) := by
  obtain ⟨b', o', e, hc⟩ := h (kcells_ne (by intro e; rw [e] at hi; simp at hi))
  cases e
  have key : ∀ r (hr : r < 2), w.cell? ⟨b, o + (i * 2 + r), none⟩ = some ((Q[i].cells)[r]'(by simp [KV.cells]; omega)) := fun r hr => by
    have hlt : i * 2 + r < (Q.flatMap KV.cells).length := by rw [kcells_len]; omega
    rw [hc _ hlt]
    have := kcells_get Q i r hi hr
    rw [List.getElem?_eq_getElem hlt, List.getElem?_eq_getElem (by simp [KV.cells]; omega)] at this
    exact this
  exact ⟨key 0 (by omega), key 1 (by omega)⟩

theorem KAt.one {w : World} {lo b o : Nat} {Q : List KV} (h : KAt w lo (some ⟨b, o, none⟩) Q) (i : Nat) (hi : i < Q.length) :
    w.cell? ⟨b, o + i * 2, none⟩ = some (.int .i64 Q[i].num) ∧ w.cell? ⟨b, o + i * 2 + 1, none⟩ = some (.slice Q[i].a Q[i].body.length Q[i].c) := cat_k h.row i hi

theorem cat_c {w : World} {b o : Nat} {Q : List CV} (h : CAt w (some ⟨b, o, none⟩) (Q.flatMap CV.cells)) (i : Nat) (hi : i < Q.length) :
    w.cell? ⟨b, o + i * 3, none⟩ = some (.int .i64 Q[i].id) ∧ w.cell? ⟨b, o + i * 3 + 1, none⟩ = some (.int .i64 Q[i].fl) ∧ w.cell? ⟨b, o + i * 3 + 2, none⟩ = some (.slice Q[i].a Q[i].ks.length Q[i].c) := by
  obtain ⟨b', o', e, hc⟩ := h (ccells_ne (by intro e; rw [e] at hi; simp at hi))
  cases e
  have key : ∀ r (hr : r < 3), w.cell? ⟨b, o + (i * 3 + r), none⟩ = some ((Q[i].cells)[r]'(by simp [CV.cells]; omega)) := fun r hr => by
    have hlt : i * 3 + r < (Q.flatMap CV.cells).length := by rw [ccells_len]; omega
    rw [hc _ hlt]
    have := ccells_get Q i r hi hr
    rw [List.getElem?_eq_getElem hlt, List.getElem?_eq_getElem (by simp [CV.cells]; omega)] at this
    exact this
  exact ⟨key 0 (by omega), key 1 (by omega), key 2 (by omega)⟩

theorem LAt.one {w : World} {lo b o : Nat} {Q : List CV} (h : LAt w lo (some ⟨b, o, none⟩) Q) (i : Nat) (hi : i < Q.length) :
    w.cell? ⟨b, o + i * 3, none⟩ = some (.int .i64 Q[i].id) ∧ w.cell? ⟨b, o + i * 3 + 1, none⟩ = some (.int .i64 Q[i].fl) ∧ w.cell? ⟨b, o + i * 3 + 2, none⟩ = some (.slice Q[i].a Q[i].ks.length Q[i].c) := cat_c h.row i hi

/-- Requests in a row of the call's own (their element type e), each with bytes of its own. -/
structure KOwn (e : Nat) (w : World) (base : Nat) (v : Value) (ks : List KV) : Prop where
  row : w.ownsRow base e 2 v ks.length (ks.flatMap KV.cells)
  own : ∀ k ∈ ks, Own w base (.slice k.a k.body.length k.c) k.body
  short : ∀ k ∈ ks, k.body.length ≤ SMALL

theorem Own.at_ {w : World} {base n c : Nat} {a : Option Addr} {l : List UInt8} (h : Own w base (.slice a n c) l) : At w a l := by
  obtain ⟨a', c', hv, _, hat⟩ := h.form
  cases hv
  exact hat

theorem Own.base_le {w : World} {base n c : Nat} {a : Option Addr} {l : List UInt8} (h : Own w base (.slice a n c) l) : ∀ x, a = some x → base ≤ x.block := fun x hx => (h.lt x.block (by rw [hx]; rfl)).1

theorem KOwn.kat {e : Nat} {w : World} {base n c : Nat} {a : Option Addr} {ks : List KV} (h : KOwn e w base (.slice a n c) ks) : KAt w base a ks :=
  ⟨owns_cat h.row, fun x hx => (World.ownsRow.lt h.row x.block (by rw [hx]; rfl)).1, fun k hk => (h.own k hk).at_, fun k hk => (h.own k hk).base_le, h.short⟩

theorem KOwn.below {e : Nat} {w w' : World} {base : Nat} {v : Value} {ks : List KV} (h : KOwn e w base v ks) (hb : Below w.heap.size w w') : KOwn e w' base v ks :=
  ⟨owns_below h.row hb, fun q hq => (h.own q hq).below hb, h.short⟩

theorem KOwn.low {e : Nat} {w : World} {base base' : Nat} {v : Value} {ks : List KV} (h : KOwn e w base v ks) (hb : base' ≤ base) : KOwn e w base' v ks :=
  ⟨owns_low h.row hb, fun q hq => (h.own q hq).le hb, h.short⟩

theorem KOwn.nil (e : Nat) (w : World) (base : Nat) : KOwn e w base (.slice none 0 0) [] := ⟨World.ownsRow_nil _ _ _ _, by simp, by simp⟩

/-- Bytes of the call's own lie off a row of another kind. -/
theorem own_off {w : World} {base base' n c : Nat} {a : Option Addr} {l : List UInt8} {e size m : Nat} {v : Value} {xs : List Value} (h : Own w base (.slice a n c) l) (hr : w.ownsRow base' e size v m xs) (he : e ≠ 5) :
    ∀ k, (Value.slice a n c).ownBlock = some k → v.ownBlock ≠ some k := by
  intro k hk ev
  rcases h.2 with ⟨hv, _⟩ | ⟨g, cap, cur, hv, _, hg, _⟩
  · cases hv; cases hk
  · rcases hr.2 with ⟨hv', _⟩ | ⟨g', cap', cur', hv', _, hg', _⟩
    · rw [hv'] at ev; cases ev
    · rw [hv] at hk
      rw [hv'] at ev
      have e1 : g = k := Option.some.inj hk
      have e2 : g' = k := Option.some.inj ev
      subst e1; subst e2
      rw [hg] at hg'
      injection hg' with h1
      injection h1 with h2 h3 h4
      exact he h3.symm

/-- Rows of unlike kinds lie apart. -/
theorem rows_off {w : World} {base base' e e' size size' m m' : Nat} {v v' : Value} {xs xs' : List Value} (h : w.ownsRow base e size v m xs) (hr : w.ownsRow base' e' size' v' m' xs') (he : e ≠ e') :
    ∀ k, v.ownBlock = some k → v'.ownBlock ≠ some k := by
  intro k hk ev
  rcases h.2 with ⟨hv, _⟩ | ⟨g, cap, cur, hv, _, hg, _⟩
  · rw [hv] at hk; cases hk
  · rcases hr.2 with ⟨hv', _⟩ | ⟨g', cap', cur', hv', _, hg', _⟩
    · rw [hv'] at ev; cases ev
    · rw [hv] at hk
      rw [hv'] at ev
      have e1 : g = k := Option.some.inj hk
      have e2 : g' = k := Option.some.inj ev
      subst e1; subst e2
      rw [hg] at hg'
      injection hg' with h1
      injection h1 with h2 h3 h4
      exact he h3

/-- Clients in a row of the call's own, all of it apart. -/
structure COwn (w : World) (base : Nat) (v : Value) (L : List CV) : Prop where
  row : w.ownsRow base 34 3 v L.length (L.flatMap CV.cells)
  own : ∀ c ∈ L, KOwn 36 w base (.slice c.a c.ks.length c.c) c.ks
  apart : L.Pairwise fun c d => ∀ x y, c.a = some x → d.a = some y → x.block ≠ y.block

theorem COwn.lat {w : World} {base n c : Nat} {a : Option Addr} {L : List CV} (h : COwn w base (.slice a n c) L) : LAt w base a L :=
  ⟨owns_cat h.row, fun x hx => (World.ownsRow.lt h.row x.block (by rw [hx]; rfl)).1, fun c hc => (h.own c hc).kat⟩

theorem COwn.below {w w' : World} {base : Nat} {v : Value} {L : List CV} (h : COwn w base v L) (hb : Below w.heap.size w w') : COwn w' base v L :=
  ⟨owns_below h.row hb, fun q hq => (h.own q hq).below hb, h.apart⟩

theorem COwn.low {w : World} {base base' : Nat} {v : Value} {L : List CV} (h : COwn w base v L) (hb : base' ≤ base) : COwn w base' v L :=
  ⟨owns_low h.row hb, fun q hq => (h.own q hq).low hb, h.apart⟩

theorem COwn.nil (w : World) (base : Nat) : COwn w base (.slice none 0 0) [] := ⟨World.ownsRow_nil _ _ _ _, by simp, List.Pairwise.nil⟩

/-- What may turn are rows that this one is not. -/
theorem KOwn.kp {e : Nat} {S : Nat → Prop} {w w' : World} {base : Nat} {v : Value} {ks : List KV} (h : KOwn e w base v ks) (hk : Kp S w w') (hv : ∀ k, v.ownBlock = some k → ¬ S k) (hb : ∀ q ∈ ks, ∀ k, (Value.slice q.a q.body.length q.c).ownBlock = some k → ¬ S k) : KOwn e w' base v ks :=
  ⟨owns_kp h.row hk hv, fun q hq => (h.own q hq).kp hk (hb q hq), h.short⟩

end Go.Proofs.Ythjggjjocfbjcaa
