/- Plain facts on packets by their numbers; make of bytes. -/
import Derived.Test.YtgjjgfppolmkoaaNoneWalk
namespace Go.Proofs.Ytgjjgfppolmkoaa
open Go.RowKit Go.Maps

/-- 'make([]byte, n)': so many bytes. -/
theorem wpList_zeros (w : World) {ops : Array Oper} {rest : List Oper} {o : Oper} {a : Act} {Q : Exit → Act → World → Prop} (hg : o.guard = none) (s t : Operand) (hop : o.op = Op.makeSlice 27 s t) (N : Int) (n : Nat) (hs : a.eval s = .int .i64 N) (ht : a.eval t = .int .i64 N) (hN : N = (n : Int)) (hn : n ≤ 10000000)
    (h : ∀ w' Z, Z.length = n → Row w' w.heap.size Z → Below w.heap.size w w' → wpList Try.prog ops Q rest (a.put o.dst (.slice (some ⟨w.heap.size, 0, none⟩) n n)) w') : wpList Try.prog ops Q (o :: rest) a w := by
  obtain ⟨i0, hi, hz0, hz1, hz2⟩ := info_parts info5
  refine wpList_make_full w hg s t 27 hop w.heap.size 5 i0 _ 1 Try.underlying27 hi hz0 hz1 .i64 .i64 N N n hs ht hN hN (by rw [hz2]; omega) (by unfold maxLen; omega) (Nat.le_refl _) ?_
  intro w' ho hg'
  exact h w' _ List.length_replicate (row_made ho) ((Below.refl _ _).grown hg' (Nat.le_refl _) (fun k hk => by cases hk))

def nums (L : List Pk) : List Int := L.map Pk.num

theorem find_ex {L : List Pk} {k : Int} (h : k ∈ nums L) : ∃ q, findP L k = some q := by
  cases e : findP L k with
  | some q => exact ⟨q, rfl⟩
  | none =>
    obtain ⟨q, hq, rfl⟩ := List.mem_map.1 h
    exact absurd (List.find?_eq_none.1 e q hq) (by simp)

theorem find_out {L : List Pk} {k : Int} (h : k ∉ nums L) : findP L k = none := by
  cases e : findP L k with
  | none => rfl
  | some q =>
    obtain ⟨h1, h2⟩ := find_mem e
    exact absurd (List.mem_map.2 ⟨q, h1, h2⟩) h

theorem nums_snoc (L : List Pk) (q : Pk) : nums (L ++ [q]) = nums L ++ [q.num] := by simp [nums]

theorem nums_del (L : List Pk) (k : Int) : nums (delP L k) = (nums L).filter (· != k) := by
  unfold nums delP
  rw [List.filter_map]
  rfl

theorem del_len : ∀ (L : List Pk) (k : Int), Rising L → (delP L k).length + (if k ∈ nums L then 1 else 0) = L.length
  | [], k, _ => by simp [delP, nums]
  | q :: r, k, h => by
    obtain ⟨h1, h2⟩ := List.pairwise_cons.1 h
    have ih := del_len r k h2
    by_cases e : q.num = k
    · have hn : k ∉ nums r := by
        intro hm
        obtain ⟨x, hx, e2⟩ := List.mem_map.1 hm
        have := h1 x hx
        omega
      rw [if_neg hn] at ih
      have e1 : delP (q :: r) k = delP r k := by simp [delP, e]
      rw [e1, if_pos (by simp [nums, e]), List.length_cons]
      omega
    · have e1 : delP (q :: r) k = q :: delP r k := by simp [delP, e]
      have e2 : (k ∈ nums (q :: r)) ↔ (k ∈ nums r) := by
        simp only [nums, List.map_cons, List.mem_cons]
        constructor
        · rintro (h | h)
          · exact absurd h.symm e
          · exact h
        · exact .inr
      rw [e1, List.length_cons, List.length_cons]
      by_cases hm : k ∈ nums r
      · rw [if_pos (e2.2 hm)]; rw [if_pos hm] at ih; omega
      · rw [if_neg (fun h => hm (e2.1 h))]; rw [if_neg hm] at ih; omega

theorem del_len_in {L : List Pk} {k : Int} (hr : Rising L) (h : k ∈ nums L) : (delP L k).length + 1 = L.length := by
  have := del_len L k hr
  rwa [if_pos h] at this

/-- The numbers 1 to n. -/
def upTo (n : Nat) : List Int := (List.range n).map fun (k : Nat) => (k : Int) + 1
theorem upTo_succ (n : Nat) : upTo (n + 1) = upTo n ++ [(n : Int) + 1] := by simp [upTo, List.range_succ]
theorem upTo_mem (n : Nat) (k : Nat) (h : k < n) : (k : Int) + 1 ∈ upTo n := List.mem_map.2 ⟨k, List.mem_range.2 h, rfl⟩
theorem upTo_len (n : Nat) : (upTo n).length = n := by simp [upTo]

end Go.Proofs.Ytgjjgfppolmkoaa
