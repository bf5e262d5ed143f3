/- How many cores run: for an account, for a quality. -/
import Derived.Test.YtflapjehkgefdaaGreatQual
namespace Go.Proofs.YtflapjehkgefdaaGreat
open Go.RowKit

theorem lit_cell (w : World) (e : Nat) (vs : Array Value) (r : Nat) (v : Value) (h : vs[r]? = some v) : (w.alloc (.cells vs e)).cell? ⟨w.heap.size, r, none⟩ = some v := by
  have hh : (w.alloc (.cells vs e)).heap[w.heap.size]? = some (.cells vs e (0, 0)) := heap_alloc_new w _
  unfold World.cell?
  simp only [hh]
  simp [h]

theorem alloc_setRow (w : World) (old cs : Array Value) (T : TypeId) : (w.alloc (.cells old T)).setRow w.heap.size cs = w.alloc (.cells cs T) := by
  unfold World.setRow World.alloc
  congr 1
  apply Array.ext
  · simp
  · intro k h1 h2
    simp only [Array.getElem_modify]
    split
    · rename_i hk
      subst hk
      simp
    · rename_i hk
      have : k < w.heap.size := by simp at h2; omega
      rw [Array.getElem_push_lt this, Array.getElem_push_lt this]

theorem jc_all (J : Job) : (jc J).toArray.all (·.oneCell') = true := by simp [jc, Value.oneCell']

/-- The jobs that count for an account: whose account lies below it. -/
def onP (A : List Acc) (n : ByteArray) : Spc → Bool := fun s => hasB (belowP A n) s.acct
/-- The jobs that count for a quality. -/
def inP (n : ByteArray) : Spc → Bool := fun s => decide (s.qos = n)

end Go.Proofs.YtflapjehkgefdaaGreat
