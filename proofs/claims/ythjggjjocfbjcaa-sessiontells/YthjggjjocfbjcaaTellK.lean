/- The document's Look: its loop. -/
import Derived.Test.YthjggjjocfbjcaaTellL
namespace Go.Proofs.Ythjggjjocfbjcaa
open Go.RowKit

theorem told_none {lo : Int} : ∀ {ks : List KV} {t : Nat} {r : Int}, Up lo (ks.map KV.flat) → ∀ (ht : t < ks.length), ks[t].num = r → getG ((ks.take t).map KV.flat) r = none
  | [], t, r, _, ht, _ => by simp at ht
  | k :: ks, 0, r, _, _, _ => rfl
  | k :: ks, t + 1, r, h, ht, he => by
    have hk := Up.mem h.2 ((ks[t]'(by simpa using ht)).flat) (List.mem_map.2 ⟨_, List.getElem_mem _, rfl⟩)
    have he' : (ks[t]'(by simpa using ht)).num = r := by simpa using he
    have hlt : k.num < r := by rw [← he']; exact hk
    simp only [List.take_succ_cons, List.map_cons, getG]
    rw [if_neg (show ¬ k.flat.1 = r from fun e => by have : k.num = r := e; omega)]
    exact told_none h.2 _ he'

/-- The loop of Look, over what is kept of the client. -/
def LkI (w w5 wr : World) (g : Nat) (id M : Int) (ks : List KV) (r : Int) (t : Nat) (v x : Value) : Prop :=
  ∃ (kv : Value) (F : List KV), (ks.take t).filter (fun k => !decide (k.num ≤ M)) = F ∧ CBlk wr g (.int .i64 id) (.int .i64 M) kv ∧ wr.ownsRow w5.heap.size 36 2 kv F.length (F.flatMap KV.cells) ∧ Kp (fun k => k = g) w5 wr ∧
    ∃ (tv : Int) (ra : Option Addr) (rc rn : Nat) (rb : List UInt8), v = .int .u8 tv ∧ x = .slice ra rn rc ∧ rb.length = rn ∧ At w ra rb ∧ (tv, rb) = toldP r ((ks.take t).map KV.flat)

end Go.Proofs.Ythjggjjocfbjcaa
