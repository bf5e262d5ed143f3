/- What takerOf answers. -/
import Derived.Test.YtkkdiciadkcmmaaTaker2
namespace Go.Proofs.Ytkkdiciadkcmmaa
open Go.RowKit

theorem size59 : (Try.prog.info? 59).map (·.size) = some 6 := by kernel_rfl
theorem size30 : (Try.prog.info? 30).map (·.size) = some 6 := by kernel_rfl

theorem results_taker {fn : Func} {p : Tmp} (h : fn.results = #[.cell p 59]) (tmps : Array Value) (w : World) (g : Nat) (c0 c1 c2 c3 c4 c5 : Value)
    (hp : tmps.getD p undef = .pointer (some ⟨g, 0, none⟩)) (hg : w.heap[g]? = some (.cells #[c0, c1, c2, c3, c4, c5] 59 (0, 0))) :
    (results fn tmps).run Try.prog w = .ok (.agg #[c0, c1, c2, c3, c4, c5]) w := by
  have hp' : tmps[p]?.getD undef = .pointer (some ⟨g, 0, none⟩) := by simpa using hp
  simp [results, h, hp', asAddr, run_loadVar_row (P := Try.prog) w g 59 59 _ (0, 0) _ hg Try.underlying59 rfl size59]

theorem results_field {fn : Func} {p : Tmp} (h : fn.results = #[.cell p 30]) (tmps : Array Value) (w : World) (g : Nat) (c0 c1 c2 c3 c4 c5 : Value)
    (hp : tmps.getD p undef = .pointer (some ⟨g, 0, none⟩)) (hg : w.heap[g]? = some (.cells #[c0, c1, c2, c3, c4, c5] 30 (0, 0))) :
    (results fn tmps).run Try.prog w = .ok (.agg #[c0, c1, c2, c3, c4, c5]) w := by
  have hp' : tmps[p]?.getD undef = .pointer (some ⟨g, 0, none⟩) := by simpa using hp
  simp [results, h, hp', asAddr, run_loadVar_row (P := Try.prog) w g 30 30 _ (0, 0) _ hg Try.underlying30 rfl size30]

theorem heap_five (w : World) (o0 o1 o2 o3 o4 : Obj) : (((((w.alloc o0).alloc o1).alloc o2).alloc o3).alloc o4).heap[w.heap.size]? = some o0 ∧ (((((w.alloc o0).alloc o1).alloc o2).alloc o3).alloc o4).heap[w.heap.size + 1]? = some o1 ∧
    (((((w.alloc o0).alloc o1).alloc o2).alloc o3).alloc o4).heap[w.heap.size + 1 + 1]? = some o2 ∧ (((((w.alloc o0).alloc o1).alloc o2).alloc o3).alloc o4).heap[w.heap.size + 1 + 1 + 1]? = some o3 ∧ (((((w.alloc o0).alloc o1).alloc o2).alloc o3).alloc o4).heap[w.heap.size + 1 + 1 + 1 + 1]? = some o4 := by
  have s : ∀ (v : World) (o : Obj), (v.alloc o).heap.size = v.heap.size + 1 := fun v o => by simp
  have old : ∀ (v : World) (o : Obj) (k : Nat) (x : Obj), v.heap[k]? = some x → (v.alloc o).heap[k]? = some x := fun v o k x h => by
    rw [Below.heap_alloc v o k (Array.getElem?_eq_some_iff.1 h).1]; exact h
  have n0 := heap_alloc_new w o0
  have n1 := heap_alloc_new (w.alloc o0) o1
  have n2 := heap_alloc_new ((w.alloc o0).alloc o1) o2
  have n3 := heap_alloc_new (((w.alloc o0).alloc o1).alloc o2) o3
  have n4 := heap_alloc_new ((((w.alloc o0).alloc o1).alloc o2).alloc o3) o4
  simp only [s] at n1 n2 n3 n4
  exact ⟨old _ _ _ _ (old _ _ _ _ (old _ _ _ _ (old _ _ _ _ n0))), old _ _ _ _ (old _ _ _ _ (old _ _ _ _ n1)), old _ _ _ _ (old _ _ _ _ n2), old _ _ _ _ n3, n4⟩

theorem below_five (w : World) (o0 o1 o2 o3 o4 : Obj) : Below w.heap.size w (((((w.alloc o0).alloc o1).alloc o2).alloc o3).alloc o4) := bnext (bnext (bnext (bnext (below_lit w o0) (below_lit _ o1)) (below_lit _ o2)) (below_lit _ o3)) (below_lit _ o4)

set_option maxRecDepth 100000 in
set_option maxHeartbeats 4000000 in
theorem taker_any (a : Option Addr) (len cap : Nat) (w : World) :
    Calls Try.prog 31 #[.slice a len cap] w fun e w' => ∃ gb ga gw gn, e = .returned (tkVal gb ga gw gn) ∧ Tk w w' a len cap gb ga gw gn (0, false) := by
  go_enter Try.func31, Try.ntmps31
  go_wp2
  obtain ⟨h0, h1, h2, h3, h4⟩ := heap_five w _ _ _ _ _
  (try simp only [Exit.inBlock, Exit.then]); refine bodyPost_ret (results_taker rfl _ _ (w.heap.size + 1) _ _ _ _ _ _ rfl h1) rfl ?_
  exact ⟨w.heap.size, w.heap.size + 1 + 1, w.heap.size + 1 + 1 + 1, w.heap.size + 1 + 1 + 1 + 1, rfl, ⟨h0, h2, h3, h4, by omega, by omega, below_five w _ _ _ _ _, Nat.zero_le _⟩⟩
end Go.Proofs.Ytkkdiciadkcmmaa
