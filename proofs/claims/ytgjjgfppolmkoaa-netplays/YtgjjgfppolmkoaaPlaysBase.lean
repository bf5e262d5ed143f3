/- NetPlays: the net of the program beside the net of the document. -/
import Derived.Test.YtgjjgfppolmkoaaRefDbl
import Derived.Test.YtgjjgfppolmkoaaRefOver
namespace Go.Proofs.Ytgjjgfppolmkoaa
open Go.RowKit Go.Maps

theorem del_cut (L : List Pk) (hr : Rising L) (j : Nat) (hj : j < L.length) : delP L L[j].num = L.take j ++ L.drop (j + 1) := by
  have e : L = L.take j ++ L[j] :: L.drop (j + 1) := by rw [← List.drop_eq_getElem_cons hj, List.take_append_drop]
  generalize L[j] = q at e
  have hp : Rising (L.take j ++ q :: L.drop (j + 1)) := by rw [← e]; exact hr
  obtain ⟨_, h2, h3⟩ := List.pairwise_append.1 hp
  refine (congrArg (fun l => delP l q.num) e).trans ?_
  show delP _ _ = _
  unfold delP
  rw [List.filter_append]
  congr 1
  · rw [List.filter_eq_self]
    intro x hx
    have := h3 x hx q (by simp)
    simp
    omega
  · rw [List.filter_cons]
    simp only [bne_self_eq_false, Bool.false_eq_true, if_false]
    rw [List.filter_eq_self]
    intro x hx
    have := (List.pairwise_cons.1 h2).1 x hx
    simp
    omega

theorem both_none {L R : List Pk} {k : Int} (hf : L.map Pk.flat = R.map Pk.flat) (h : findP L k = none) : placeP R k = -1 := by
  refine place_none R k fun q hq e => ?_
  have : q.flat ∈ L.map Pk.flat := by rw [hf]; exact List.mem_map_of_mem hq
  obtain ⟨x, hx, hxf⟩ := List.mem_map.1 this
  have hn : x.num = q.num := congrArg (fun y => y.1) hxf
  exact List.find?_eq_none.1 h x hx (by simp [hn, e])

theorem flat_get {L R : List Pk} (hf : L.map Pk.flat = R.map Pk.flat) (j : Nat) (h1 : j < L.length) (h2 : j < R.length) : L[j].flat = R[j].flat := by
  have := congrArg (fun l => l[j]?) hf
  simpa [h1, h2] using this

theorem both_some {L R : List Pk} {k : Int} {q : Pk} (hr : Rising L) (hf : L.map Pk.flat = R.map Pk.flat) (h : findP L k = some q) :
    ∃ (j : Nat) (h2 : j < R.length), placeP R k = j ∧ R[j].flat = q.flat ∧ (delP L k).map Pk.flat = (R.take j ++ R.drop (j + 1)).map Pk.flat := by
  obtain ⟨hm, hk⟩ := find_mem h
  obtain ⟨j, h1, e⟩ := List.getElem_of_mem hm
  have hl : L.length = R.length := by have := congrArg List.length hf; simpa using this
  have h2 : j < R.length := by omega
  have hj := flat_get hf j h1 h2
  have hnum : ∀ i (a : i < L.length) (b : i < R.length), L[i].num = R[i].num := fun i a b => congrArg (fun y => y.1) (flat_get hf i a b)
  refine ⟨j, h2, place_take R k j h2 (fun i hi => ?_) ?_, ?_, ?_⟩
  · have hri := List.pairwise_iff_getElem.1 hr i j (by omega) h1 hi
    have := hnum i (by omega) (by omega)
    rw [e] at hri
    omega
  · rw [← hnum j h1 h2, e, hk]
  · rw [← hj, e]
  · have := del_cut L hr j h1
    rw [e, hk] at this
    rw [this]
    simp only [List.map_append, List.map_take, List.map_drop, hf]

/-- One net of the program and the document's beside it. T: the blocks that are turned. -/
structure Side (T : Nat → Prop) (w : World) (p m : Nat) (L : List Pk) (last : Nat) (a : Option Addr) (n c : Nat) (R : List Pk) : Prop where
  net : NAt w p m L last
  rat : RAt w a R
  Rl : R.length = n
  cap : n ≤ c
  le : n ≤ 256
  same : L.map Pk.flat = R.map Pk.flat
  offL : ∀ q ∈ L, ∀ x, q.a = some x → ¬ T x.block
  offA : ∀ x, a = some x → ¬ T x.block ∧ x.block < w.heap.size
  offR : ∀ q ∈ R, ∀ x, q.a = some x → ¬ T x.block ∧ x.block < w.heap.size

theorem Side.len {T : Nat → Prop} {w : World} {p m last n c : Nat} {a : Option Addr} {L R : List Pk} (h : Side T w p m L last a n c R) : L.length = n := by
  have := congrArg List.length h.same
  have := h.Rl
  simp at *
  omega

theorem Side.kp {T S : Nat → Prop} {w w' : World} {p m last n c : Nat} {a : Option Addr} {L R : List Pk} (h : Side T w p m L last a n c R) (hk : Kp S w w') (hS : ∀ k, k < w.heap.size → S k → T k) (hp : ¬ S p) (hm : ¬ S m) : Side T w' p m L last a n c R := by
  have hs := hk.size
  refine ⟨h.net.kp hk hp hm (fun q hq x hx e => h.offL q hq x hx (hS _ (h.net.bodies.lt q hq x hx) e)), h.rat.kp hk (fun x hx e => (h.offA x hx).1 (hS _ (h.offA x hx).2 e)) (fun q hq x hx e => (h.offR q hq x hx).1 (hS _ (h.offR q hq x hx).2 e)), h.Rl, h.cap, h.le, h.same, h.offL, fun x hx => ⟨(h.offA x hx).1, ?_⟩, fun q hq x hx => ⟨(h.offR q hq x hx).1, ?_⟩⟩
  · have := (h.offA x hx).2; omega
  · have := (h.offR q hq x hx).2; omega

/-- Another set of blocks: none of those that are new to it lies in what the side holds. -/
theorem Side.other {T T' : Nat → Prop} {w : World} {p m last n c : Nat} {a : Option Addr} {L R : List Pk} (h : Side T w p m L last a n c R) (hT : ∀ k, k < w.heap.size → T' k → T k) : Side T' w p m L last a n c R :=
  ⟨h.net, h.rat, h.Rl, h.cap, h.le, h.same, fun q hq x hx e => h.offL q hq x hx (hT _ (h.net.bodies.lt q hq x hx) e), fun x hx => ⟨fun e => (h.offA x hx).1 (hT _ (h.offA x hx).2 e), (h.offA x hx).2⟩, fun q hq x hx => ⟨fun e => (h.offR q hq x hx).1 (hT _ (h.offR q hq x hx).2 e), (h.offR q hq x hx).2⟩⟩

/-- One more packet on both sides. -/
theorem Side.more {T : Nat → Prop} {w w1 w2 : World} {p m last n c : Nat} {a : Option Addr} {L R : List Pk} {q1 q : Pk} {fr to : Int} {body : List UInt8} {v : Value} (h : Side T w p m L last a n c R) (hn : n < 256) (hT : ∀ k, T k → k < w.heap.size)
    (h1 : NAt w2 p m (L ++ [q1]) (last + 1)) (hq : q1.num = (last + 1 : Nat) ∧ q1.fr = fr ∧ q1.to = to ∧ q1.body = body) (hq1 : ∀ x, q1.a = some x → ¬ T x.block) (hs : w.heap.size ≤ w1.heap.size) (hs2 : w1.heap.size ≤ w2.heap.size)
    (hp : Puts w1 w2 R last fr to body v q) : ∃ a' c', v = .slice a' (n + 1) c' ∧ Side T w2 p m (L ++ [q1]) (last + 1) a' (n + 1) c' (R ++ [q]) := by
  obtain ⟨a', c', e, hr, hb, hcc⟩ := hp.rat
  have hRl := h.Rl
  refine ⟨a', c', by rw [e, hRl], h1, hr, by simp [hRl], by omega, by omega, ?_, ?_, ?_, ?_⟩
  · rw [List.map_append, List.map_append, h.same]
    congr 1
    simp only [List.map_cons, List.map_nil, Pk.flat, hq.1, hq.2.1, hq.2.2.1, hq.2.2.2, hp.num, hp.fr_, hp.to_, hp.body_]
  · intro z hz x hx
    rcases List.mem_append.1 hz with h' | h'
    · exact h.offL z h' x hx
    · rw [List.mem_singleton] at h'; subst h'; exact hq1 x hx
  · intro x hx
    have := hb x hx
    exact ⟨fun e => by have := hT _ e; omega, this.2⟩
  · intro z hz x hx
    rcases List.mem_append.1 hz with h' | h'
    · have := h.offR z h' x hx
      exact ⟨this.1, by omega⟩
    · rw [List.mem_singleton] at h'
      subst h'
      have := hp.new x hx
      exact ⟨fun e => by have := hT _ e; omega, this.2⟩

/-- A packet less on both sides. -/
theorem Side.less {T : Nat → Prop} {w w1 w2 : World} {p m last n c c' j : Nat} {a a' : Option Addr} {L R : List Pk} {k : Int} (h : Side T w p m L last a n c R) (hT : ∀ k, T k → k < w.heap.size) (hj : j < R.length)
    (h1 : NAt w2 p m (delP L k) last) (he : (delP L k).map Pk.flat = (R.take j ++ R.drop (j + 1)).map Pk.flat) (hs : w.heap.size ≤ w1.heap.size) (hs2 : w1.heap.size ≤ w2.heap.size)
    (hr : RAt w2 a' (R.take j ++ R.drop (j + 1))) (hn : ∀ x, a' = some x → w1.heap.size ≤ x.block ∧ x.block < w2.heap.size) (hc : n - 1 ≤ c') : Side T w2 p m (delP L k) last a' (n - 1) c' (R.take j ++ R.drop (j + 1)) := by
  have hRl := h.Rl
  have hle := h.le
  refine ⟨h1, hr, by simp; omega, hc, by omega, he, fun q hq x hx => h.offL q (mem_del hq) x hx, fun x hx => ?_, fun q hq x hx => ?_⟩
  · have := hn x hx
    exact ⟨fun e => by have := hT _ e; omega, this.2⟩
  · have hm : q ∈ R := by
      rcases List.mem_append.1 hq with h' | h'
      · exact List.mem_of_mem_take h'
      · exact List.mem_of_mem_drop h'
    have := h.offR q hm x hx
    exact ⟨this.1, by omega⟩

end Go.Proofs.Ytgjjgfppolmkoaa
