/- What the document's reading of one field answers: what tkOne tells. -/
import Derived.Test.YtkkdiciadkcmmaaRef1
import Derived.Test.YtkkdiciadkcmmaaGet
namespace Go.Proofs.Ytkkdiciadkcmmaa
open Go.RowKit

/-- One field stands at p. -/
def Fine (l : List UInt8) (p : Nat) : Prop := (tkOne l (p, false)).2.2 = false ∧ ((tkOne l (p, false)).1.kind = 1 ∨ (tkOne l (p, false)).1.kind = 2 ∨ (tkOne l (p, false)).1.kind = 3 ∨ (tkOne l (p, false)).1.kind = 4)

theorem rd_in {l : List UInt8} {p n : Nat} (h : p + n ≤ l.length) : ∃ V : Nat, rdV l p n = V ∧ rdB l p n = true ∧ tkN l n (p, false) = (V, (p + n, false)) ∧ V < 256 ^ n := by
  have hb := rdV_bounds l p n
  refine ⟨numOf ((l.drop p).take n), ?_, ?_, ?_, ?_⟩
  · unfold rdV; rw [if_pos ⟨by omega, by omega⟩]; simp
  · unfold rdB; exact decide_eq_true ⟨by omega, by omega⟩
  · unfold tkN; rw [if_pos h]
  · have := tkN_lt l n (p, false); unfold tkN at this; rw [if_pos h] at this; exact this

theorem rd_out {l : List UInt8} {p n : Nat} (b : Bool) (h : l.length < p + n) : rdV l p n = 0 ∧ rdB l p n = false ∧ tkN l n (p, b) = (0, (l.length, true)) := by
  refine ⟨?_, ?_, ?_⟩
  · unfold rdV; rw [if_neg (by omega)]
  · unfold rdB; exact decide_eq_false (by omega)
  · unfold tkN; rw [if_neg (by dsimp only; omega)]

theorem fine_cut {l : List UInt8} {p : Nat} (h : l.length < p + 2) : ¬ Fine l p := by
  rintro ⟨h1, _⟩
  have key : ∀ A : Nat × St, tkN l 1 A.2 = (0, (l.length, true)) → A = tkN l 1 (p, false) → False := fun A h0 hA => by
    rw [tkOne_eq l (p, false) A _ hA h0.symm] at h1
    simp at h1
  rcases Nat.lt_or_ge l.length (p + 1) with h2 | h2
  · obtain ⟨_, _, h3⟩ := rd_out (n := 1) false h2
    exact key _ (rd_out (n := 1) true (by omega)).2.2 h3.symm
  · obtain ⟨V, _, _, h3, _⟩ := rd_in (n := 1) h2
    exact key _ (rd_out (n := 1) false (by omega)).2.2 h3.symm

theorem fine_kind {l : List UInt8} {p T K : Nat} (hT : tkN l 1 (p, false) = (T, (p + 1, false))) (hK : tkN l 1 (p + 1, false) = (K, (p + 1 + 1, false))) (hK2 : K < 256) (h : K < 1 ∨ 4 < K) : ¬ Fine l p := by
  rintro ⟨_, h2⟩
  have e := (tkOne_kind l (p, false)).1
  rw [hT] at e
  dsimp only at e
  rw [hK] at e
  dsimp only at e
  rw [e] at h2
  have e1 := ofNat_eq K hK2 1 (by omega)
  have e2 := ofNat_eq K hK2 2 (by omega)
  have e3 := ofNat_eq K hK2 3 (by omega)
  have e4 := ofNat_eq K hK2 4 (by omega)
  rcases h2 with h2 | h2 | h2 | h2
  · have := e1.1 h2; omega
  · have := e2.1 h2; omega
  · have := e3.1 h2; omega
  · have := e4.1 h2; omega

/-- The answer: a field and the place behind it, if one stands there. -/
def OnePost (l : List UInt8) (p : Nat) (w w' : World) (e : Ending) : Prop :=
  ∃ (it : It) (en : Int) (ok : Bool), e = .returned (.tuple #[it.val, .int .i64 en, .bool ok]) ∧ Below w.heap.size w w' ∧ (ok = true ↔ Fine l p) ∧ (ok = true → it.fd = (tkOne l (p, false)).1 ∧ en = ((tkOne l (p, false)).2.1 : Int) ∧ ItOwn w' w.heap.size it)

theorem OnePost.no {l : List UInt8} {p : Nat} {w w' : World} (it : It) (en : Int) (hb : Below w.heap.size w w') (h : ¬ Fine l p) : OnePost l p w w' (.returned (.tuple #[it.val, .int .i64 en, .bool false])) :=
  ⟨it, en, false, rfl, hb, ⟨fun e => absurd e (by simp), fun f => absurd f h⟩, fun e => absurd e (by simp)⟩

theorem results_field3 {fn : Func} {p u v : Tmp} (h : fn.results = #[.cell p 30, .tmp u, .tmp v]) (tmps : Array Value) (w : World) (g : Nat) (c0 c1 c2 c3 c4 c5 : Value)
    (hp : tmps.getD p undef = .pointer (some ⟨g, 0, none⟩)) (hg : w.heap[g]? = some (.cells #[c0, c1, c2, c3, c4, c5] 30 (0, 0))) :
    (results fn tmps).run Try.prog w = .ok (.tuple #[.agg #[c0, c1, c2, c3, c4, c5], tmps.getD u undef, tmps.getD v undef]) w := by
  have hp' : tmps[p]?.getD undef = .pointer (some ⟨g, 0, none⟩) := by simpa using hp
  simp [results, h, hp', asAddr, run_loadVar_row (P := Try.prog) w g 30 30 _ (0, 0) _ hg Try.underlying30 rfl size30]

end Go.Proofs.Ytkkdiciadkcmmaa
