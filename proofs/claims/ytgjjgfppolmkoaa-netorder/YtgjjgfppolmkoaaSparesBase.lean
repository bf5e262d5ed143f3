/- ApartBytes of a literal list of slices, each in a block of its own; lists of one and two packets. -/
import Derived.Test.YtgjjgfppolmkoaaApartWalk
import Derived.Test.YtgjjgfppolmkoaaPick
namespace Go.Proofs.Ytgjjgfppolmkoaa
open Go.RowKit Go.Maps

/-- A slice of bytes: where it lies, its capacity, its bytes. -/
def slT (t : Option Addr × Nat × List UInt8) : Value := .slice t.1 t.2.2.length t.2.1

theorem apart_list (w : World) (base : Nat) (T : List (Option Addr × Nat × List UInt8)) (hbase : base ≤ w.heap.size) (hT : T.length ≤ 100) (hn : ∀ t ∈ T, t.2.2.length ≤ 1000000)
    (hown : ∀ t ∈ T, Own w base (slT t) t.2.2) (hd : T.Pairwise fun s t => ∀ b, (slT s).ownBlock = some b → (slT t).ownBlock ≠ some b) (cs : Array Value) (hcs : cs = (T.map slT).toArray) (n : Nat) (hnn : n = T.length) :
    Calls Try.prog 30 #[.slice (some ⟨w.heap.size, 0, none⟩) n n] (w.alloc (.cells cs 27)) fun e w' => e = .returned (.bool true) ∧ Kp (fun k => ∃ t ∈ T, (slT t).ownBlock = some k) (w.alloc (.cells cs 27)) w' := by
  subst hcs hnn
  have bl := below_lit w (.cells (T.map slT).toArray 27)
  have hh : (w.alloc (.cells (T.map slT).toArray 27)).heap[w.heap.size]? = some (.cells (T.map slT).toArray 27 (0, 0)) := heap_alloc_new w _
  have hlt := (Array.getElem?_eq_some_iff.1 hh).1
  have hget : ∀ j, j < T.length → ∃ t, T[j]? = some t ∧ T.getD j (none, 0, []) = t ∧ t ∈ T := fun j hj => ⟨T[j], List.getElem?_eq_getElem hj, by simp [List.getD, hj], List.getElem_mem hj⟩
  refine (apart_any w.heap.size T.length T.length base (fun j => (T.getD j (none, 0, [])).1) (fun j => (T.getD j (none, 0, [])).2.2.length) (fun j => (T.getD j (none, 0, [])).2.1) (fun j => slT (T.getD j (none, 0, []))) (fun j => (T.getD j (none, 0, [])).2.2) _ (fun _ => rfl) hT ?_ (Nat.le_trans hbase bl.size) ?_ hlt ?_ (fun _ _ => rfl) ?_ ?_).mono ?_
  · intro j hj
    obtain ⟨t, _, e, hm⟩ := hget j hj
    rw [e]
    exact hn t hm
  · intro j hj
    obtain ⟨t, e0, e, hm⟩ := hget j hj
    rw [cell_of_row _ w.heap.size j _ 27 (0, 0) hh, e]
    simp [e0]
  · intro j hj
    obtain ⟨t, _, e, hm⟩ := hget j hj
    rw [e]
    exact (hown t hm).below bl
  · intro i j hi hj hij b h1 h2
    have hp := List.pairwise_iff_getElem.1 hd
    have ei : T.getD i (none, 0, []) = T[i] := by simp [List.getD, hi]
    have ej : T.getD j (none, 0, []) = T[j] := by simp [List.getD, hj]
    rw [ei] at h1
    rw [ej] at h2
    rcases Nat.lt_or_gt_of_ne hij with h | h
    · exact hp i j hi hj h b h1 h2
    · exact hp j i hj hi h b h2 h1
  · intro j hj e2
    obtain ⟨t, _, e, hm⟩ := hget j hj
    rw [e] at e2
    have := ((hown t hm).lt _ e2).2
    omega
  · rintro e w' ⟨rfl, hk⟩
    refine ⟨rfl, hk.mono (fun k _ ⟨j, hj, e⟩ => ?_)⟩
    obtain ⟨t, _, e1, hm⟩ := hget j hj
    rw [e1] at e
    exact ⟨t, hm, e⟩

theorem flat2 {Q : List Pk} {p q : Pk} (h : Q.map Pk.flat = [p, q].map Pk.flat) : ∃ a c a' c', Q = [⟨p.num, p.fr, p.to, a, c, p.body⟩, ⟨q.num, q.fr, q.to, a', c', q.body⟩] := by
  match Q, h with
  | [], h => simp at h
  | [x], h => simp at h
  | [x, y], h =>
    obtain ⟨n1, f1, t1, a1, c1, b1⟩ := x
    obtain ⟨n2, f2, t2, a2, c2, b2⟩ := y
    simp [Pk.flat] at h
    obtain ⟨⟨rfl, rfl, rfl, rfl⟩, rfl, rfl, rfl, rfl⟩ := h
    exact ⟨a1, c1, a2, c2, rfl⟩
  | x :: y :: z :: r, h => simp at h

end Go.Proofs.Ytgjjgfppolmkoaa
