/- What FrameBack's loop keeps: the frames that may be put, their bytes one behind the other, where each begins. -/
import Derived.Test.YtdhafnmahpafaaaFed
import Derived.Test.YtdhafnmahpafaaaTurn
namespace Go.Proofs.Ytdhafnmahpafaaa
open Go.RowKit

/-- Those of the first n that are not too long. -/
def goods (its : List It) (n : Nat) : List It := (its.take n).filter fun i => decide (i.body.length ≤ 65535)

theorem goods_yes (its : List It) (n : Nat) (h : n < its.length) (hb : its[n].body.length ≤ 65535) : goods its (n + 1) = goods its n ++ [its[n]] := by
  unfold goods
  rw [List.take_succ_eq_append_getElem h, List.filter_append]
  simp [hb]

theorem goods_no (its : List It) (n : Nat) (h : n < its.length) (hb : ¬ its[n].body.length ≤ 65535) : goods its (n + 1) = goods its n := by
  unfold goods
  rw [List.take_succ_eq_append_getElem h, List.filter_append]
  simp [hb]

theorem goods_short (its : List It) (n : Nat) : ∀ i ∈ goods its n, i.body.length ≤ 65535 := by
  intro i hi
  have := (List.mem_filter.1 hi).2
  simpa using this

theorem goods_mem (its : List It) (n : Nat) : ∀ i ∈ goods its n, i ∈ its := fun _ hi => List.mem_of_mem_take (List.mem_filter.1 hi).1

theorem goods_len (its : List It) (n : Nat) : (goods its n).length ≤ n := by
  unfold goods
  have h1 := List.length_filter_le (fun i : It => decide (i.body.length ≤ 65535)) (its.take n)
  have h2 : (its.take n).length ≤ n := by rw [List.length_take]; omega
  omega

/-- The bytes of frames one behind the other. -/
def bytesOf (g : List It) : List UInt8 := (g.map It.fr).flatMap frameOf

theorem bytes_nil : bytesOf [] = [] := rfl
theorem bytes_snoc (g : List It) (i : It) : bytesOf (g ++ [i]) = bytesOf g ++ frameOf i.fr := by
  unfold bytesOf; rw [List.map_append, List.flatMap_append]; simp

theorem bytes_len (g : List It) (h : ∀ i ∈ g, i.body.length ≤ 65535) : (bytesOf g).length ≤ g.length * 65544 := by
  induction g with
  | nil => simp [bytesOf]
  | cons i r ih =>
    have h1 := ih (fun j hj => h j (by simp [hj]))
    have h2 := h i (by simp)
    have e : bytesOf (i :: r) = frameOf i.fr ++ bytesOf r := by unfold bytesOf; rw [List.map_cons, List.flatMap_cons]
    rw [e, List.length_append, frame_len]
    show i.body.length + 9 + _ ≤ (r.length + 1) * 65544
    omega

/-- Where each begins. -/
def startsOf (g : List It) : List Nat := (List.range g.length).map fun j => (bytesOf (g.take j)).length

theorem starts_snoc (g : List It) (i : It) : startsOf (g ++ [i]) = startsOf g ++ [(bytesOf g).length] := by
  unfold startsOf
  rw [List.length_append, List.length_singleton, List.range_succ, List.map_append]
  congr 1
  · apply List.map_congr_left
    intro j hj
    rw [List.take_append_of_le_length (by have := List.mem_range.1 hj; omega)]
  · simp

theorem starts_len (g : List It) : (startsOf g).length = g.length := by unfold startsOf; simp

theorem starts_get (g : List It) (j : Nat) (h : j < g.length) : (startsOf g)[j]'(by rw [starts_len]; exact h) = (bytesOf (g.take j)).length := by
  unfold startsOf; simp

theorem bytes_split (g : List It) (j : Nat) (h : j < g.length) : bytesOf g = bytesOf (g.take j) ++ (frameOf g[j].fr ++ bytesOf (g.drop (j + 1))) := by
  have e : g = g.take j ++ (g[j] :: g.drop (j + 1)) := by rw [← List.drop_eq_getElem_cons h, List.take_append_drop]
  have e2 : bytesOf g = bytesOf (g.take j ++ (g[j] :: g.drop (j + 1))) := by rw [← e]
  rw [e2]
  unfold bytesOf
  rw [List.map_append, List.flatMap_append, List.map_cons, List.flatMap_cons]

theorem take_bytes (g : List It) (h : ∀ i ∈ g, i.body.length ≤ 65535) (rest : List UInt8) : takeOf (bytesOf g ++ rest) = (g.map It.fr ++ (takeOf rest).1, (takeOf rest).2) := by
  refine take_frames _ _ ?_
  intro f hf
  obtain ⟨i, hi, rfl⟩ := List.mem_map.1 hf
  exact h i hi

/-- A turned byte of the kind, the body or the sum of one of them. -/
theorem take_turned (g : List It) (h : ∀ i ∈ g, i.body.length ≤ 65535) (j : Nat) (hj : j < g.length) (t : Nat) (ht : t < g[j].body.length + 5) (y : UInt8) (hy : y ≠ (bytesOf g).getD ((bytesOf (g.take j)).length + (4 + t)) 0) :
    takeOf ((bytesOf g).set ((bytesOf (g.take j)).length + (4 + t)) y) = ((g.take j).map It.fr, none) := by
  have hfl : (frameOf g[j].fr).length = g[j].body.length + 9 := frame_len _
  have hmem : g[j] ∈ g := List.getElem_mem _
  rw [bytes_split g j hj] at hy ⊢
  rw [List.set_append_right _ _ (by omega), Nat.add_sub_cancel_left, List.set_append_left _ _ (by omega), take_bytes _ (fun i hi => h i (List.mem_of_mem_take hi)), turn_wrong g[j].fr _ (h _ hmem) t ht y ?_, List.append_nil]
  intro e
  apply hy
  rw [e]
  simp only [List.getD]
  rw [List.getElem?_append_right (by omega), Nat.add_sub_cancel_left, List.getElem?_append_left (by omega)]

/-- What Pick answers. -/
def pickOf (x : Int) (n : Nat) : Nat := (if x.tmod n < 0 then x.tmod n + n else x.tmod n).toNat

theorem pickOf_lt (x : Int) (n : Nat) (h : 0 < n) : pickOf x n < n := by
  have h1 := Int.lt_tmod_of_pos x (show (0 : Int) < n by omega)
  have h2 := Int.tmod_lt_of_pos x (show (0 : Int) < n by omega)
  unfold pickOf
  split <;> omega

theorem pick_val (x N : Int) (n : Nat) (w : World) (hN : N = n) (hn : 0 < n) (hn2 : n ≤ 4611686018427387904) :
    Calls Try.prog 23 #[.int .i64 x, .int .i64 N] w fun e w' => e = .returned (.int .i64 (pickOf x n : Int)) ∧ w' = w := by
  subst hN
  have h1 := Int.lt_tmod_of_pos x (show (0 : Int) < n by omega)
  have h2 := Int.tmod_lt_of_pos x (show (0 : Int) < n by omega)
  unfold pickOf
  go_enter Try.func23, Try.ntmps23
  go_wp2
  · rename_i hneg
    go_ret
    refine ⟨ret_int ?_, rfl⟩
    omega
  · rename_i hpos
    go_ret
    refine ⟨ret_int ?_, rfl⟩
    omega

theorem info3 : (Try.prog.info? 3).map (fun i => (i.zero, i.size, i.bytes)) = some (some (.int .i64 0), 1, 8) := by kernel_rfl

/-- A row of numbers of the call's own. -/
def Nums (w : World) (base : Nat) (v : Value) (l : List Nat) : Prop := w.ownsRow base 3 1 v l.length (l.map fun n : Nat => Value.int .i64 (n : Int))

theorem Nums.kp {S : Nat → Prop} {w w' : World} {base : Nat} {v : Value} {l : List Nat} (h : Nums w base v l) (hk : Kp S w w') (hn : ∀ k, v.ownBlock = some k → ¬ S k) : Nums w' base v l := owns_kp h hk hn

/-- 'append(v, n)' of numbers at the operation. -/
theorem wpList_num (w : World) {ops : Array Oper} {rest : List Oper} {o : Oper} {a : Act} {Q : Exit → Act → World → Prop} (hgd : o.guard = none) (s x : Operand)
    (ho : o.op = .call { callee := .builtin .append, args := #[s, x], argTypes := #[49, 49] })
    (base : Nat) (v : Value) (l : List Nat) (hs : a.eval s = v) (hown : Nums w base v l) (g c n : Nat) (hx : a.eval x = .slice (some ⟨g, 0, none⟩) 1 c) (hg : w.cell? ⟨g, 0, none⟩ = some (.int .i64 (n : Int)))
    (hb : l.length + 1 ≤ 1000000) (hbase : base ≤ w.heap.size)
    (h : ∀ v' w', Nums w' base v' (l ++ [n]) → w.grownBy w' v.ownBlock → wpList Try.prog ops Q rest (a.put o.dst v') w') : wpList Try.prog ops Q (o :: rest) a w := by
  obtain ⟨i0, hi, hz0, hz1, hz2⟩ := info_parts info3
  refine wpList_append_own w hgd s x 49 ho base 3 i0 _ 1 8 Try.underlying49 hi hz0 hz1 hz2 rfl (by omega) v l.length _ hs hown ⟨g, 0, none⟩ 1 c [.int .i64 (n : Int)] hx rfl ?_ ?_ (by unfold maxLen; omega) (by omega) hbase ?_
  · intro j u hu
    match j, hu with
    | 0, hu => simp at hu; subst hu; exact hg
    | j + 1, hu => simp at hu
  · intro u hu; simp at hu; subst hu; rfl
  · intro v' w' h1 h2 _
    refine h v' w' ?_ h2
    unfold Nums
    rw [List.length_append, List.map_append]
    exact h1

/-- Rows of unlike elements lie apart. -/
theorem owns_apart {w : World} {b1 b2 n1 n2 e1 e2 z1 z2 : Nat} {u v : Value} {xs ys : List Value} (h : w.ownsRow b1 e1 z1 u n1 xs) (hv : w.ownsRow b2 e2 z2 v n2 ys) (hne : e1 ≠ e2) : ∀ k, u.ownBlock = some k → v.ownBlock ≠ some k := by
  intro k hk e
  rcases h.2 with ⟨rfl, _⟩ | ⟨g, cap, cur, rfl, _, hg, _⟩
  · cases hk
  · rcases hv.2 with ⟨rfl, _⟩ | ⟨g', cap', cur', rfl, _, hg', _⟩
    · cases e
    · simp [Value.ownBlock] at hk e
      subst hk
      subst e
      rw [hg] at hg'
      simp at hg'
      exact hne hg'.2

end Go.Proofs.Ytdhafnmahpafaaa
