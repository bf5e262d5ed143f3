/- What keep and Feed answer: the frames that are whole, in memory of their own, and the reader then. -/
import Derived.Test.YtdhafnmahpafaaaFirst
namespace Go.Proofs.Ytdhafnmahpafaaa
open Go.RowKit

/-- A frame in a slice's row: its kind, its body's bytes, where they lie. -/
structure It where
  k : UInt8
  body : List UInt8
  a : Option Addr
  c : Nat

def It.cells (i : It) : List Value := [.int .u8 (i.k.toNat : Int), .slice i.a i.body.length i.c]
def It.fr (i : It) : Fr := (i.k, i.body)
def It.val (i : It) : Value := .slice i.a i.body.length i.c

/-- The body lies in a row of its own, in a block of D. -/
def ItAt (w : World) (D : Nat → Prop) (i : It) : Prop := Own w 0 i.val i.body ∧ ∀ k, i.val.ownBlock = some k → D k

theorem ItAt.kp {S D : Nat → Prop} {w w' : World} {i : It} (h : ItAt w D i) (hk : Kp S w w') (hn : ∀ k, D k → ¬ S k) : ItAt w' D i := ⟨h.1.kp hk fun k hk' => hn k (h.2 k hk'), h.2⟩

theorem ItAt.below {D : Nat → Prop} {w w' : World} {i : It} (h : ItAt w D i) (hb : Below w.heap.size w w') : ItAt w' D i := ⟨h.1.below hb, h.2⟩

theorem ItAt.at {D : Nat → Prop} {w : World} {i : It} (h : ItAt w D i) : At w i.a i.body := by
  obtain ⟨a, c, he, _, hat⟩ := h.1.form
  simp only [It.val, Value.slice.injEq] at he
  rw [he.1]
  exact hat

/-- Bytes' rows are no frames' rows. -/
theorem own_ne {w : World} {b1 b2 n : Nat} {u v : Value} {l : List UInt8} {xs : List Value} (h : Own w b1 u l) (hv : w.ownsRow b2 27 2 v n xs) : ∀ k, u.ownBlock = some k → v.ownBlock ≠ some k := by
  intro k hk e
  rcases h.2 with ⟨rfl, _⟩ | ⟨g, cap, cur, rfl, _, hg, _⟩
  · cases hk
  · rcases hv.2 with ⟨rfl, _⟩ | ⟨g', cap', cur', rfl, _, hg', _⟩
    · cases e
    · simp [Value.ownBlock] at hk e
      subst hk
      subst e
      rw [hg] at hg'
      simp at hg'

theorem At.lt {w : World} {a : Option Addr} {l : List UInt8} (h : At w a l) (hl : l ≠ []) : ∀ x, a = some x → x.block < w.heap.size := by
  obtain ⟨b, o, rfl, hc⟩ := h hl
  intro x hx
  cases hx
  have hp : 0 < l.length := List.length_pos_iff.2 hl
  exact World.block_lt_of_cell? w _ (hc 0 hp)

theorem itsLen (its : List It) : (its.flatMap It.cells).length = its.length * 2 := by
  induction its with
  | nil => rfl
  | cons i r ih => simp [List.flatMap_cons, It.cells, ih]; omega

theorem its_one (its : List It) : ∀ u ∈ its.flatMap It.cells, u.oneCell' = true := by
  intro u hu
  obtain ⟨i, _, hi⟩ := List.mem_flatMap.1 hu
  simp [It.cells] at hi
  rcases hi with rfl | rfl <;> rfl

/-- A row of the call's own with these frames, all in blocks of D. -/
def Frs (w : World) (D : Nat → Prop) (v : Value) (its : List It) : Prop := w.ownsRow 0 27 2 v its.length (its.flatMap It.cells) ∧ (∀ k, v.ownBlock = some k → D k) ∧ ∀ i ∈ its, ItAt w D i

theorem Frs.kp {S D : Nat → Prop} {w w' : World} {v : Value} {its : List It} (h : Frs w D v its) (hk : Kp S w w') (hn : ∀ k, D k → ¬ S k) : Frs w' D v its :=
  ⟨owns_kp h.1 hk fun k hk' => hn k (h.2.1 k hk'), h.2.1, fun i hi => (h.2.2 i hi).kp hk hn⟩

theorem Frs.below {D : Nat → Prop} {w w' : World} {v : Value} {its : List It} (h : Frs w D v its) (hb : Below w.heap.size w w') : Frs w' D v its :=
  ⟨owns_kp h.1 (Kp.of_below (S := fun _ => False) hb) (fun _ _ h => h), h.2.1, fun i hi => (h.2.2 i hi).below hb⟩

theorem Frs.mono {D D' : Nat → Prop} {w : World} {v : Value} {its : List It} (h : Frs w D v its) (hd : ∀ k, D k → D' k) : Frs w D' v its :=
  ⟨h.1, fun k hk => hd k (h.2.1 k hk), fun i hi => ⟨(h.2.2 i hi).1, fun k hk => hd k ((h.2.2 i hi).2 k hk)⟩⟩

theorem info27' : (Try.prog.info? 27).map (fun i => (i.zero, i.size, i.bytes)) = some (some (.agg #[.int .u8 0, .slice none 0 0]), 2, 32) := by kernel_rfl

theorem keep_no (p len cap : Nat) (br : Bool) (v : Value) (a : Option Addr) (w : World) (h : Blk w p br v) :
    Calls Try.prog 29 #[.pointer (some ⟨p, 0, none⟩), .slice a len cap, .bool false] w fun e w' => e = .returned (.tuple #[]) ∧ Blk w' p br (.slice a len cap) ∧ Kp (fun k => k = p) w w' := by
  have h2 := h.c2
  have hf := h.free 2
  go_enter Try.func29, Try.ntmps29
  go_wp2
  go_end0
  exact ⟨rfl, h.set2 _, Kp.setCell (S := fun k => k = p) (p := ⟨p, 2, none⟩) (Kp.refl _ _) rfl _⟩

theorem keep_yes (p len cap : Nat) (br : Bool) (v : Value) (a : Option Addr) (l : List UInt8) (w : World) (h : Blk w p br v) (hl : l.length = len) (hlen : len ≤ 140737489000000) (hat : At w a l) :
    Calls Try.prog 29 #[.pointer (some ⟨p, 0, none⟩), .slice a len cap, .bool true] w fun e w' => e = .returned (.tuple #[]) ∧ ∃ v', Blk w' p br v' ∧ Own w' w.heap.size v' l ∧ Kp (fun k => k = p) w w' := by
  go_enter Try.func29, Try.ntmps29
  go_wp2_with fail
  refine (fresh_sl a cap len l _ hl hlen hat).mono ?_
  rintro e w1 ⟨b, c, rfl, ho, hb⟩
  have h1 := h.below hb
  have h2 := h1.c2
  have hf := h1.free 2
  go_wp2
  go_end0
  have hk : Kp (fun k => k = p) w1 (w1.setCell ⟨p, 2, none⟩ (.slice b len c)) := Kp.setCell (S := fun k => k = p) (p := ⟨p, 2, none⟩) (Kp.refl _ _) rfl _
  refine ⟨rfl, _, h1.set2 _, ho.kp hk ?_, (Kp.of_below hb).trans hk⟩
  intro k hk' e'
  have := (ho.lt k hk').1
  have := h.lt
  omega

theorem keep_any (p len cap : Nat) (br tk : Bool) (v : Value) (a : Option Addr) (l : List UInt8) (w : World) (h : Blk w p br v) (hl : l.length = len) (hlen : len ≤ 140737489000000) (hat : At w a l) (hown : tk = false → Own w 0 (.slice a len cap) l) :
    Calls Try.prog 29 #[.pointer (some ⟨p, 0, none⟩), .slice a len cap, .bool tk] w fun e w' => e = .returned (.tuple #[]) ∧ ∃ v', Blk w' p br v' ∧ Own w' 0 v' l ∧ Kp (fun k => k = p) w w' ∧ ∀ k, v'.ownBlock = some k → w.heap.size ≤ k ∨ (tk = false ∧ (Value.slice a len cap).ownBlock = some k) := by
  cases tk with
  | false =>
    refine (keep_no p len cap br v a w h).mono ?_
    rintro e w' ⟨rfl, h1, h2⟩
    exact ⟨rfl, _, h1, (hown rfl).kp h2 (fun k hk => h.ne (hown rfl) k hk), h2, fun k hk => .inr ⟨rfl, hk⟩⟩
  | true =>
    refine (keep_yes p len cap br v a l w h hl hlen hat).mono ?_
    rintro e w' ⟨rfl, v', h1, h2, h3⟩
    exact ⟨rfl, v', h1, h2.le (Nat.zero_le _), h3, fun k hk => .inl (h2.lt k hk).1⟩

end Go.Proofs.Ytdhafnmahpafaaa
