/- Reservations, plain: which may be, which clash, what a right list is, and what stays right. -/
import Derived.Test.YtjfgpepecjkdnaaPe
import Derived.Test.YtjfgpepecjkdnaaNdFirst
namespace Go.Proofs.Ytjfgpepecjkdnaa
open Go.RowKit

/-- A reservation, wherever its accounts lie. -/
structure Vw where
  name : ByteArray
  nodes : Nat
  fr : Int
  to : Int
  T : List ByteArray
def vw (p : Prt × List ByteArray) : Vw := ⟨p.1.name, p.1.nodes.toNat, p.1.prio, p.1.most, p.2⟩
def v0 : Vw := ⟨ByteArray.empty, 0, 0, 0, []⟩
def vAt (V : List Vw) (i : Nat) : Vw := V.getD i v0
theorem vAt_eq {V : List Vw} {i : Nat} (h : i < V.length) : V[i] = vAt V i := by simp [vAt, h]
theorem vAt_mem {V : List Vw} {i : Nat} (h : i < V.length) : vAt V i ∈ V := by rw [← vAt_eq h]; exact List.getElem_mem h
theorem vAt_vw {M : List (Prt × List ByteArray)} {i : Nat} (h : i < M.length) : vAt (M.map vw) i = vw (mAt M i) := by
  rw [← vAt_eq (by simpa using h), ← mAt_eq h]; simp

def lessB (x y : ByteArray) : Bool := Op.bytesLess x.data.toList y.data.toList
def sameB (x y : ByteArray) : Bool := decide (x = y)
theorem less_of (x y : ByteArray) : Op.bytesLess x.toList y.toList = lessB x y := by unfold lessB; rw [ByteArray.toList_eq, ByteArray.toList_eq]

theorem bl_irr : ∀ x : List UInt8, Op.bytesLess x x = false
  | [] => rfl
  | a :: x => by simp [Op.bytesLess, bl_irr x]
theorem bl_trans : ∀ x y z : List UInt8, Op.bytesLess x y = true → Op.bytesLess y z = true → Op.bytesLess x z = true
  | [], [], _, h, _ => by simp [Op.bytesLess] at h
  | [], _ :: _, [], _, h => by simp [Op.bytesLess] at h
  | [], _ :: _, _ :: _, _, _ => by simp [Op.bytesLess]
  | _ :: _, [], _, h, _ => by simp [Op.bytesLess] at h
  | _ :: _, _ :: _, [], _, h => by simp [Op.bytesLess] at h
  | a :: x, b :: y, c :: z, h1, h2 => by
    simp only [Op.bytesLess, Bool.or_eq_true, Bool.and_eq_true, decide_eq_true_eq, beq_iff_eq] at h1 h2 ⊢
    rcases h1 with h1 | ⟨rfl, h1⟩
    · rcases h2 with h2 | ⟨rfl, h2⟩
      · exact .inl (UInt8.lt_trans h1 h2)
      · exact .inl h1
    · rcases h2 with h2 | ⟨rfl, h2⟩
      · exact .inl h2
      · exact .inr ⟨rfl, bl_trans x y z h1 h2⟩
theorem bl_tri : ∀ x y : List UInt8, Op.bytesLess x y = false → x ≠ y → Op.bytesLess y x = true
  | [], [], _, h => absurd rfl h
  | [], _ :: _, h, _ => by simp [Op.bytesLess] at h
  | _ :: _, [], _, _ => by simp [Op.bytesLess]
  | a :: x, b :: y, h, hn => by
    simp only [Op.bytesLess, Bool.or_eq_false_iff, Bool.and_eq_false_iff, decide_eq_false_iff_not, beq_eq_false_iff_ne] at h
    simp only [Op.bytesLess, Bool.or_eq_true, Bool.and_eq_true, decide_eq_true_eq, beq_iff_eq]
    by_cases hab : a = b
    · subst hab
      refine .inr ⟨rfl, bl_tri x y ?_ (fun e => hn (by rw [e]))⟩
      rcases h.2 with h2 | h2
      · exact absurd rfl h2
      · exact h2
    · left
      have h1 : ¬ a.toNat < b.toNat := h.1
      have h2 : a.toNat ≠ b.toNat := fun e => hab (UInt8.toNat_inj.1 e)
      show b.toNat < a.toNat
      omega
theorem less_irr (x : ByteArray) : lessB x x = false := bl_irr _
theorem less_trans {x y z : ByteArray} (h : lessB x y = true) (k : lessB y z = true) : lessB x z = true := bl_trans _ _ _ h k
theorem less_tri {x y : ByteArray} (h : lessB x y = false) (hn : x ≠ y) : lessB y x = true := bl_tri _ _ h (fun e => hn (ByteArray.ext (Array.ext' e)))

/-- Nodes, all of them among the config's. -/
def anB (cn s : Nat) : Bool := (Nd.firstP 4294967295 (cn : Int)).2 && decide (0 < Nd.cnt s) && decide (s &&& (4294967295 - (Nd.firstP 4294967295 (cn : Int)).1) = 0)
def rusrB (A : List Acc) (T : List ByteArray) : Bool := decide (1 ≤ T.length) && userB A T
/-- May it be? -/
def mayB (cn : Nat) (A : List Acc) (v : Vw) : Bool := nameB v.name && anB cn v.nodes && decide (0 ≤ v.fr) && decide (v.fr < v.to) && decide (v.to ≤ 1099511627776) && rusrB A v.T
/-- Do two clash? -/
def ovB (a b : Vw) : Bool := decide (0 < Nd.cnt (a.nodes &&& b.nodes)) && decide (max a.fr b.fr < min a.to b.to)
def clB (V : List Vw) : Bool := (List.range V.length).any fun i => (List.range i).any fun j => ovB (vAt V j) (vAt V i)
def okB (cn : Nat) (A : List Acc) (V : List Vw) (i : Nat) : Bool := mayB cn A (vAt V i) && (decide (i = 0) || lessB (vAt V (i - 1)).name (vAt V i).name)
/-- A right list of a config that is right, or is not. -/
def rlB (rc : Bool) (cn : Nat) (A : List Acc) (V : List Vw) : Bool := rc && decide (V.length ≤ 16) && (List.range V.length).all (okB cn A V) && !clB V

theorem cl_yes {V : List Vw} {i j : Nat} (hi : i < V.length) (hj : j < i) (h : ovB (vAt V j) (vAt V i) = true) : clB V = true := by
  unfold clB
  rw [List.any_eq_true]
  exact ⟨i, List.mem_range.2 hi, List.any_eq_true.2 ⟨j, List.mem_range.2 hj, h⟩⟩
theorem cl_no {V : List Vw} : clB V = false ↔ ∀ i, i < V.length → ∀ j, j < i → ovB (vAt V j) (vAt V i) = false := by
  constructor
  · intro h i hi j hj
    cases hv : ovB (vAt V j) (vAt V i) with
    | false => rfl
    | true => rw [cl_yes hi hj hv] at h; cases h
  · intro h
    cases hc : clB V with
    | false => rfl
    | true =>
      unfold clB at hc
      rw [List.any_eq_true] at hc
      obtain ⟨i, hi, h2⟩ := hc
      rw [List.any_eq_true] at h2
      obtain ⟨j, hj, h3⟩ := h2
      rw [h i (List.mem_range.1 hi) j (List.mem_range.1 hj)] at h3
      cases h3
theorem cl_pair {V : List Vw} : clB V = false ↔ V.Pairwise fun a b => ovB a b = false := by
  rw [cl_no, List.pairwise_iff_getElem]
  constructor
  · intro h i j hi hj hij
    have := h j hj i hij
    rwa [← vAt_eq hi, ← vAt_eq hj] at this
  · intro h i hi j hj
    have := h j i (by omega) hi hj
    rwa [vAt_eq, vAt_eq] at this
theorem up_pair {V : List Vw} : (∀ i, i < V.length → 0 < i → lessB (vAt V (i - 1)).name (vAt V i).name = true) ↔ V.Pairwise fun a b => lessB a.name b.name = true := by
  rw [List.pairwise_iff_getElem]
  constructor
  · intro h
    have key : ∀ d i (hi : i + d + 1 < V.length), lessB (vAt V i).name (vAt V (i + d + 1)).name = true := by
      intro d
      induction d with
      | zero =>
        intro i hi
        have := h (i + 1) hi (by omega)
        simpa using this
      | succ d ih =>
        intro i hi
        have h1 := ih i (by omega)
        have h2 := h (i + d + 1 + 1) (by omega) (by omega)
        rw [show i + d + 1 + 1 - 1 = i + d + 1 by omega] at h2
        exact less_trans h1 h2
    intro i j hi hj hij
    have := key (j - i - 1) i (by omega)
    rw [show i + (j - i - 1) + 1 = j by omega] at this
    rwa [← vAt_eq hi, ← vAt_eq hj] at this
  · intro h i hi h0
    have := h (i - 1) i (by omega) hi (by omega)
    rwa [vAt_eq, vAt_eq] at this
theorem rl_is {rc : Bool} {cn : Nat} {A : List Acc} {V : List Vw} : rlB rc cn A V = true ↔ rc = true ∧ V.length ≤ 16 ∧ (∀ v ∈ V, mayB cn A v = true) ∧ (V.Pairwise fun a b => lessB a.name b.name = true) ∧ V.Pairwise fun a b => ovB a b = false := by
  unfold rlB
  rw [← up_pair, ← cl_pair]
  simp only [Bool.and_eq_true, decide_eq_true_eq, List.all_eq_true, List.mem_range, okB, Bool.or_eq_true, Bool.not_eq_true']
  constructor
  · rintro ⟨⟨⟨h1, h2⟩, h3⟩, h4⟩
    refine ⟨h1, h2, fun v hv => ?_, fun i hi h0 => ?_, h4⟩
    · obtain ⟨i, hi, rfl⟩ := List.getElem_of_mem hv
      rw [vAt_eq hi]; exact (h3 i hi).1
    · rcases (h3 i hi).2 with h5 | h5
      · omega
      · exact h5
  · rintro ⟨h1, h2, h3, h4, h5⟩
    refine ⟨⟨⟨h1, h2⟩, fun i hi => ⟨h3 _ (vAt_mem hi), ?_⟩⟩, h5⟩
    rcases Nat.eq_zero_or_pos i with h | h
    · exact .inl h
    · exact .inr (h4 i hi h)

/-- What is left of a right list is right. -/
theorem rl_sub {rc : Bool} {cn : Nat} {A : List Acc} {V W : List Vw} (h : rlB rc cn A V = true) (hs : W.Sublist V) : rlB rc cn A W = true := by
  rw [rl_is] at h ⊢
  exact ⟨h.1, Nat.le_trans hs.length_le h.2.1, fun v hv => h.2.2.1 v (hs.subset hv), h.2.2.2.1.sublist hs, h.2.2.2.2.sublist hs⟩
theorem rl_nil {rc : Bool} {cn : Nat} {A : List Acc} {V : List Vw} (h : rlB rc cn A V = true) : rlB rc cn A [] = true := rl_sub h (List.nil_sublist V)

def befB (n : ByteArray) (v : Vw) : Bool := lessB v.name n
def aftB (n : ByteArray) (v : Vw) : Bool := !(lessB v.name n || sameB v.name n)
def amP (V : List Vw) (r : Vw) : List Vw := V.filter (befB r.name) ++ [r] ++ V.filter (aftB r.name)

theorem am_len (V : List Vw) (r : Vw) : (amP V r).length ≤ V.length + 1 := by
  have key : ∀ L : List Vw, (L.filter (befB r.name)).length + (L.filter (aftB r.name)).length ≤ L.length := by
    intro L
    induction L with
    | nil => simp
    | cons x t ih =>
      simp only [List.filter_cons]
      have : befB r.name x = true → aftB r.name x = false := fun h => by unfold aftB; unfold befB at h; rw [h]; rfl
      cases hb : befB r.name x with
      | true => rw [this hb]; simp; omega
      | false =>
        cases ha : aftB r.name x <;> simp <;> omega
  unfold amP
  have := key V
  simp; omega
theorem am_right {rc : Bool} {cn : Nat} {A : List Acc} {V : List Vw} {r : Vw} (h : rlB rc cn A V = true) (hm : mayB cn A r = true) (hl : V.length < 16) (hc : clB (amP V r) = false) : rlB rc cn A (amP V r) = true := by
  rw [rl_is] at h ⊢
  refine ⟨h.1, by have := am_len V r; omega, ?_, ?_, cl_pair.1 hc⟩
  · intro v hv
    unfold amP at hv
    rw [List.mem_append, List.mem_append] at hv
    rcases hv with (hv | hv) | hv
    · exact h.2.2.1 v (List.mem_filter.1 hv).1
    · rw [List.mem_singleton.1 hv]; exact hm
    · exact h.2.2.1 v (List.mem_filter.1 hv).1
  · have hbef : ∀ v ∈ V.filter (befB r.name), lessB v.name r.name = true := fun v hv => (List.mem_filter.1 hv).2
    have haft : ∀ v ∈ V.filter (aftB r.name), lessB r.name v.name = true := fun v hv => by
      have := (List.mem_filter.1 hv).2
      unfold aftB sameB at this
      rw [Bool.not_eq_true', Bool.or_eq_false_iff] at this
      exact less_tri this.1 (of_decide_eq_false this.2)
    unfold amP
    rw [List.pairwise_append, List.pairwise_append]
    refine ⟨⟨h.2.2.2.1.sublist List.filter_sublist, List.pairwise_singleton _ _, ?_⟩, h.2.2.2.1.sublist List.filter_sublist, ?_⟩
    · intro a ha b hb
      rw [List.mem_singleton.1 hb]; exact hbef a ha
    · intro a ha b hb
      rcases List.mem_append.1 ha with ha | ha
      · exact less_trans (hbef a ha) (haft b hb)
      · rw [List.mem_singleton.1 ha]; exact haft b hb

theorem cnt_pos {s : Nat} (hs : s < 4294967296) (h : s ≠ 0) : 0 < Nd.cnt s := by
  rcases Nat.eq_zero_or_pos (Nd.cnt s) with h1 | h1
  · exfalso
    apply h
    apply Nat.eq_of_testBit_eq
    intro i
    rw [Nat.zero_testBit]
    cases hb : s.testBit i with
    | false => rfl
    | true =>
      have hm : i ∈ Nd.lst s := Nd.mem_lst.2 ⟨Nd.bit_lt hs hb, hb⟩
      have : Nd.lst s = [] := List.eq_nil_of_length_eq_zero h1
      rw [this] at hm; cases hm
  · exact h1
/-- No two of a right list hold the same node at the same time. -/
theorem rl_apart {rc : Bool} {cn : Nat} {A : List Acc} {V : List Vw} (h : rlB rc cn A V = true) (hs : ∀ v ∈ V, v.nodes < 4294967296) {i j : Nat} (hi : i < V.length) (hj : j < i) : ¬ ((vAt V i).nodes &&& (vAt V j).nodes ≠ 0 ∧ (vAt V i).fr < (vAt V j).to ∧ (vAt V j).fr < (vAt V i).to) := by
  rintro ⟨h1, h2, h3⟩
  obtain ⟨_, _, hm, _, hc⟩ := rl_is.1 h
  have h4 := cl_no.1 (cl_pair.2 hc) i hi j hj
  have fi : (vAt V i).fr < (vAt V i).to := by
    have := hm _ (vAt_mem hi)
    unfold mayB at this
    simp only [Bool.and_eq_true, decide_eq_true_eq] at this
    exact this.1.1.2
  have fj : (vAt V j).fr < (vAt V j).to := by
    have := hm _ (vAt_mem (show j < V.length by omega))
    unfold mayB at this
    simp only [Bool.and_eq_true, decide_eq_true_eq] at this
    exact this.1.1.2
  unfold ovB at h4
  rw [Bool.and_eq_false_iff] at h4
  rcases h4 with h4 | h4
  · have := of_decide_eq_false h4
    rw [Nat.and_comm] at h1
    exact this (cnt_pos (Nat.lt_of_le_of_lt Nat.and_le_left (hs _ (vAt_mem (show j < V.length by omega)))) h1)
  · have := of_decide_eq_false h4
    omega

/-- All but the first of that name. -/
def drP : List Vw → ByteArray → List Vw
  | [], _ => []
  | v :: r, n => if v.name = n then r else v :: drP r n
theorem dr_sub (n : ByteArray) : ∀ V : List Vw, (drP V n).Sublist V
  | [] => List.Sublist.slnil
  | v :: r => by
    unfold drP
    split
    · exact List.sublist_cons_self v r
    · exact (dr_sub n r).cons_cons v
def exP (V : List Vw) (now : Int) : List Vw := V.filter fun v => decide (now < v.to)

end Go.Proofs.Ytjfgpepecjkdnaa
