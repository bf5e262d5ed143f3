/- What the closures that take bytes answer, and what they leave in the variables that they share. -/
import Derived.Test.YtkkdiciadkcmmaaPut
import Derived.Laws.EntriesVeiled
namespace Go.Proofs.Ytkkdiciadkcmmaa
open Go.RowKit

def ptr (g : Nat) : Value := .pointer (some ⟨g, 0, none⟩)

/-- The variables that the closures share: the bytes, the place, whether something was wrong, the closure that notes; w0: the world ahead of all that. -/
structure Tk (w0 w : World) (a : Option Addr) (len cap gb ga gw gn : Nat) (s : St) : Prop where
  b : w.heap[gb]? = some (.cells #[.slice a len cap] 22 (0, 0))
  p : w.heap[ga]? = some (.cells #[.int .i64 (s.1 : Int)] 3 (0, 0))
  r : w.heap[gw]? = some (.cells #[.bool s.2] 4 (0, 0))
  n : w.heap[gn]? = some (.cells #[.func (.func 48) #[] #[.pointer (some ⟨gb, 0, none⟩), .pointer (some ⟨gw, 0, none⟩), .pointer (some ⟨ga, 0, none⟩)]] 77 (0, 0))
  lowp : w0.heap.size ≤ ga
  lowr : w0.heap.size ≤ gw
  bel : Below w0.heap.size w0 w
  le : s.1 ≤ len

/-- What the closures may turn. -/
def Two (ga gw : Nat) : Nat → Prop := fun k => k = ga ∨ k = gw

theorem one_kp {S : Nat → Prop} {w w' : World} {g : Nat} {o : Obj} (h : w.heap[g]? = some o) (hk : Kp S w w') (hn : ¬ S g) : w'.heap[g]? = some o := by
  rw [hk.block g (Array.getElem?_eq_some_iff.1 h).1 hn]; exact h

theorem block_ne {w : World} {g k : Nat} {c d : Array Value} {t u : TypeId} {f m : Nat × Nat} (h : w.heap[g]? = some (.cells c t f)) (hk : w.heap[k]? = some (.cells d u m)) (hne : t ≠ u) : g ≠ k := by
  rintro rfl
  rw [h] at hk
  simp at hk
  exact hne hk.2.1

/-- What else turns nothing of it. -/
theorem Tk.kp {S : Nat → Prop} {w0 w w' : World} {a : Option Addr} {len cap gb ga gw gn : Nat} {s : St} (h : Tk w0 w a len cap gb ga gw gn s) (hk : Kp S w w') (h1 : ¬ S gb) (h2 : ¬ S ga) (h3 : ¬ S gw) (h4 : ¬ S gn) (hl : ∀ k, S k → w0.heap.size ≤ k) : Tk w0 w' a len cap gb ga gw gn s :=
  ⟨one_kp h.b hk h1, one_kp h.p hk h2, one_kp h.r hk h3, one_kp h.n hk h4, h.lowp, h.lowr, h.bel.trans (hk.below hl h.bel.size), h.le⟩

theorem Tk.below {w0 w w' : World} {a : Option Addr} {len cap gb ga gw gn : Nat} {s : St} (h : Tk w0 w a len cap gb ga gw gn s) (hb : Below w.heap.size w w') : Tk w0 w' a len cap gb ga gw gn s :=
  h.kp (S := fun _ => False) (Kp.of_below hb) (fun h => h) (fun h => h) (fun h => h) (fun h => h) (fun _ h => h.elim)

theorem Tk.at {w0 w : World} {a : Option Addr} {len cap gb ga gw gn : Nat} {s : St} {l : List UInt8} (h : Tk w0 w a len cap gb ga gw gn s) (hat : At w0 a l) : At w a l := hat.below h.bel

theorem Tk.cb {w0 w : World} {a : Option Addr} {len cap gb ga gw gn : Nat} {s : St} (h : Tk w0 w a len cap gb ga gw gn s) : w.cell? ⟨gb, 0, none⟩ = some (.slice a len cap) := cell_of_one h.b
theorem Tk.cp {w0 w : World} {a : Option Addr} {len cap gb ga gw gn : Nat} {s : St} (h : Tk w0 w a len cap gb ga gw gn s) : w.cell? ⟨ga, 0, none⟩ = some (.int .i64 (s.1 : Int)) := cell_of_one h.p
theorem Tk.cr {w0 w : World} {a : Option Addr} {len cap gb ga gw gn : Nat} {s : St} (h : Tk w0 w a len cap gb ga gw gn s) : w.cell? ⟨gw, 0, none⟩ = some (.bool s.2) := cell_of_one h.r
theorem Tk.cn {w0 w : World} {a : Option Addr} {len cap gb ga gw gn : Nat} {s : St} (h : Tk w0 w a len cap gb ga gw gn s) : w.cell? ⟨gn, 0, none⟩ = some (.func (.func 48) #[] #[.pointer (some ⟨gb, 0, none⟩), .pointer (some ⟨gw, 0, none⟩), .pointer (some ⟨ga, 0, none⟩)]) := cell_of_one h.n
theorem Tk.fp {w0 w : World} {a : Option Addr} {len cap gb ga gw gn : Nat} {s : St} (h : Tk w0 w a len cap gb ga gw gn s) : w.frozen? ⟨ga, 0, none⟩ = false := free_of_one h.p
theorem Tk.fr {w0 w : World} {a : Option Addr} {len cap gb ga gw gn : Nat} {s : St} (h : Tk w0 w a len cap gb ga gw gn s) : w.frozen? ⟨gw, 0, none⟩ = false := free_of_one h.r

/-- The place is set. -/
theorem Tk.setP {w0 w : World} {a : Option Addr} {len cap gb ga gw gn : Nat} {s : St} (h : Tk w0 w a len cap gb ga gw gn s) (q : Nat) (hq : q ≤ len) : Tk w0 (w.setCell ⟨ga, 0, none⟩ (.int .i64 (q : Int))) a len cap gb ga gw gn (q, s.2) ∧ Kp (Two ga gw) w (w.setCell ⟨ga, 0, none⟩ (.int .i64 (q : Int))) := by
  have hk : Kp (fun k => k = ga) w (w.setCell ⟨ga, 0, none⟩ (.int .i64 (q : Int))) := Kp.setCell (S := fun k => k = ga) (p := ⟨ga, 0, none⟩) (Kp.refl _ _) rfl _
  refine ⟨⟨one_kp h.b hk (block_ne h.b h.p (by decide)), one_setCell h.p, one_kp h.r hk (block_ne h.r h.p (by decide)), one_kp h.n hk (block_ne h.n h.p (by decide)), h.lowp, h.lowr, h.bel.trans (hk.below (fun k e => by subst e; exact h.lowp) h.bel.size), hq⟩, hk.mono fun k _ e => .inl e⟩

theorem Tk.setR {w0 w : World} {a : Option Addr} {len cap gb ga gw gn : Nat} {s : St} (h : Tk w0 w a len cap gb ga gw gn s) (q : Bool) : Tk w0 (w.setCell ⟨gw, 0, none⟩ (.bool q)) a len cap gb ga gw gn (s.1, q) ∧ Kp (Two ga gw) w (w.setCell ⟨gw, 0, none⟩ (.bool q)) := by
  have hk : Kp (fun k => k = gw) w (w.setCell ⟨gw, 0, none⟩ (.bool q)) := Kp.setCell (S := fun k => k = gw) (p := ⟨gw, 0, none⟩) (Kp.refl _ _) rfl _
  refine ⟨⟨one_kp h.b hk (block_ne h.b h.r (by decide)), one_kp h.p hk (block_ne h.p h.r (by decide)), one_setCell h.r, one_kp h.n hk (block_ne h.n h.r (by decide)), h.lowp, h.lowr, h.bel.trans (hk.below (fun k e => by subst e; exact h.lowr) h.bel.size), h.le⟩, hk.mono fun k _ e => .inr e⟩

theorem Tk.drew {w0 w : World} {a : Option Addr} {len cap gb ga gw gn : Nat} {s : St} (h : Tk w0 w a len cap gb ga gw gn s) : Tk w0 w.drew a len cap gb ga gw gn s := h.below (Below.refl _ _).drew

theorem note_yes {w0 : World} (a : Option Addr) (len cap gb ga gw gn : Nat) (s : St) (E : Int) (q : Nat) (w : World) (h : Tk w0 w a len cap gb ga gw gn s) (hE : E = q) (hq : q ≤ len) :
    Calls Try.prog 48 #[.int .i64 E, .bool true, .pointer (some ⟨gb, 0, none⟩), .pointer (some ⟨gw, 0, none⟩), .pointer (some ⟨ga, 0, none⟩)] w fun e w' => e = .returned (.tuple #[]) ∧ Tk w0 w' a len cap gb ga gw gn (q, s.2) ∧ Kp (Two ga gw) w w' := by
  subst hE
  have h1 := h.cp
  have h2 := h.fp
  go_enter Try.func48, Try.ntmps48
  go_wp2
  go_end0
  exact ⟨rfl, h.setP q hq⟩

set_option maxHeartbeats 1000000 in
theorem note_no {w0 : World} (a : Option Addr) (len cap gb ga gw gn : Nat) (s : St) (E : Int) (w : World) (h : Tk w0 w a len cap gb ga gw gn s) :
    Calls Try.prog 48 #[.int .i64 E, .bool false, .pointer (some ⟨gb, 0, none⟩), .pointer (some ⟨gw, 0, none⟩), .pointer (some ⟨ga, 0, none⟩)] w fun e w' => e = .returned (.tuple #[]) ∧ Tk w0 w' a len cap gb ga gw gn (len, true) ∧ Kp (Two ga gw) w w' := by
  have h1 := h.cb
  have h2 := h.fr
  have h3 := h.cr
  have hs := h.setR true
  have h4 := hs.1.cp
  have h5 := hs.1.fp
  have h6 := hs.1.cb
  have hs2 := hs.1.setP len (Nat.le_refl _)
  have hk : Kp (Two ga gw) w ((w.setCell ⟨gw, 0, none⟩ (.bool true)).setCell ⟨ga, 0, none⟩ (.int .i64 (len : Int))).drew := (hs.2.trans hs2.2).trans (Kp.of_below (Below.refl _ _).drew)
  have ht := hs2.1.drew
  go_enter Try.func48, Try.ntmps48
  go_wp2_with fail
  go_region
  all_goals
    go_wp2_with fail
    go_end0
    exact ⟨rfl, ht, hk⟩

end Go.Proofs.Ytkkdiciadkcmmaa
