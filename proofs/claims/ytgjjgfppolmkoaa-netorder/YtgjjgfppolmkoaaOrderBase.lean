/- NetOrder: the numbers that are left; what one is taken out of; the packets that were sent. -/
import Derived.Test.YtgjjgfppolmkoaaSentBase
import Derived.Test.YtgjjgfppolmkoaaSparesBase
namespace Go.Proofs.Ytgjjgfppolmkoaa
open Go.RowKit Go.Maps

theorem info3 : (Try.prog.info? 3).map (fun i => (i.zero, i.size, i.bytes)) = some (some (.int .i64 0), 1, 8) := by kernel_rfl

/-- v reads as the numbers Z, off the blocks p and m. -/
structure LA (w : World) (p m : Nat) (a : Option Addr) (Z : List Int) : Prop where
  at_ : CAt w a (Z.map I)
  off : ∀ x, a = some x → x.block ≠ p ∧ x.block ≠ m

theorem LA.kp {S : Nat → Prop} {w w' : World} {p m : Nat} {a : Option Addr} {Z : List Int} (h : LA w p m a Z) (hk : Kp S w w') (hn : ∀ k, S k → k = p ∨ k = m) : LA w' p m a Z :=
  ⟨h.at_.kp hk (fun x hx e => by have := h.off x hx; rcases hn _ e with e | e; exact this.1 e; exact this.2 e), h.off⟩

theorem LA.below {w w' : World} {p m : Nat} {a : Option Addr} {Z : List Int} (h : LA w p m a Z) (hb : Below w.heap.size w w') : LA w' p m a Z := h.kp (S := fun _ => False) (Kp.of_below hb) (fun _ h => h.elim)

theorem LA.cell {w : World} {p m b o : Nat} {Z : List Int} (h : LA w p m (some ⟨b, o, none⟩) Z) (i : Nat) (hi : i < Z.length) : w.cell? ⟨b, o + i, none⟩ = some (.int .i64 Z[i]) := by
  obtain ⟨b', o', e, hc⟩ := h.at_ (by intro e; simp at e; rw [e] at hi; simp at hi)
  cases e
  rw [hc i (by simpa using hi)]
  simp [I]

theorem LA.place {w : World} {p m : Nat} {a : Option Addr} {Z : List Int} (h : LA w p m a Z) (hz : Z ≠ []) : ∃ b o, a = some ⟨b, o, none⟩ := by
  obtain ⟨b, o, e, _⟩ := h.at_ (by simpa using hz)
  exact ⟨b, o, e⟩

theorem I_one (Z : List Int) : ∀ u ∈ Z.map I, u.oneCell' = true := by
  intro u hu; simp at hu; obtain ⟨x, _, rfl⟩ := hu; rfl

/-- 'append(s[:k:k], rest...)': what s[:k] and rest hold, in memory that is new or s's own. -/
theorem app_rest (w : World) (p m b o k c n : Nat) (y : Option Addr) (X Y : List Int) (hX : LA w p m (some ⟨b, o, none⟩) X) (hY : LA w p m y Y) (hk : X.length = k) (hn : Y.length = n) (hl : k + n ≤ 100) (hp : p < w.heap.size) (hm : m < w.heap.size) :
    ∃ a' c' w', (Builtin.append_ #[59, 59] 59 #[.slice (some ⟨b, o, none⟩) k k, .slice y n c]).run Try.prog w = .ok (.slice a' (k + n) c') w' ∧ LA w' p m a' (X ++ Y) ∧ k + n ≤ c' ∧ Below w.heap.size w w' := by
  obtain ⟨i0, hi, hz0, hz1, hz2⟩ := info_parts info3
  subst hk hn
  by_cases hY0 : Y = []
  · subst hY0
    refine ⟨some ⟨b, o, none⟩, X.length, w, ?_, by simpa using hX, by simp, Below.refl _ _⟩
    cases y with
    | none => simp [Builtin.append_, run_underlying Try.underlying59, sizeOf, typeInfo, hi, Builtin.lenOf, Builtin.firstCells, storeCells]
    | some x => simp [Builtin.append_, run_underlying Try.underlying59, sizeOf, typeInfo, hi, Builtin.lenOf, Builtin.firstCells, loadCells, loadCellsFrom, storeCells]
  · obtain ⟨yb, yo, rfl⟩ := hY.place hY0
    have hp1 : 0 < Y.length := List.length_pos_iff.2 hY0
    have hfit : Builtin.nextslicecap (X.length + Y.length) X.length * i0.bytes ≤ 281474976710656 := by
      rw [hz2]
      unfold Builtin.nextslicecap
      split
      · omega
      · split <;> omega
    have hr := run_append_grow (P := Try.prog) w 59 59 3 i0 (.int .i64 0) Try.underlying59 hi hz0 ⟨b, o, none⟩ X.length X.length (X.map I) (by simp [hz1]) hX.at_.src ⟨yb, yo, none⟩ Y.length c (Y.map I) (by simp [hz1]) hY.at_.src (by omega) (by omega) hfit
    have hge := grownCap_ge w (X.length + Y.length) X.length 3
    refine ⟨_, _, _, hr, ⟨fun _ => ⟨w.heap.size, 0, rfl, fun i hi2 => ?_⟩, fun x hx => ?_⟩, hge, (Below.refl _ w).drew.alloc (Nat.le_refl _) _⟩
    · have hh := heap_alloc_new w.drew (.cells ((X.map I).toArray ++ (Y.map I).toArray ++ Builtin.zeroCells (Value.cells (.int .i64 0)) (grownCap w (X.length + Y.length) X.length 3 - (X.length + Y.length))) 3)
      rw [Nat.zero_add, cell_of_row _ w.heap.size i _ 3 (0, 0) hh, show (X.map I).toArray ++ (Y.map I).toArray = ((X ++ Y).map I).toArray by simp]
      have hlt : i < ((X ++ Y).map I).length := by simpa using hi2
      rw [Array.getElem?_append_left (by simpa using hlt)]
      simp only [List.getElem?_toArray]
      exact List.getElem?_eq_getElem hlt
    · cases hx
      constructor <;> (show w.heap.size ≠ _; omega)

/-- The packet that is made of the i-th body. -/
def sentOf (T : List (Option Addr × Nat × List UInt8)) (i : Nat) : Int × Int × Int × List UInt8 := ((i : Int) + 1, (i : Int), 0, (T.getD i (none, 0, [])).2.2)

theorem copyints_any (a : Option Addr) (n c : Nat) (Z : List Int) (w : World) (hn : Z.length = n) (hl : n ≤ 1000) (hat : CAt w a (Z.map I)) :
    Calls Try.prog 28 #[.slice a n c] w fun e w' => ∃ v, e = .returned v ∧ NOwn w' w.heap.size v Z ∧ Below w.heap.size w w' := by
  obtain ⟨i0, hi0, hz0, hz1, hz2⟩ := info_parts info3
  have hI := I_one Z
  have hZl : (Z.map I).length = n * 1 := by simp [hn]
  replace hI := hid hI
  replace hZl := hid hZl
  replace hn := hid hn
  go_enter Try.func28, Try.ntmps28
  go_wp2_with (at_builtin; refine wpList_cat _ rfl (.tmp 4) (.tmp 5) 59 rfl w.heap.size 3 i0 _ 1 8 Try.underlying59 hi0 hz0 hz1 hz2 rfl (by omega) (.slice none 0 0) 0 [] rfl (World.ownsRow_nil _ _ _ _) a n c (Z.map I) rfl hZl.out hat hI.out (by unfold maxLen; omega) (by omega) (Nat.le_refl _) ?_; intro v1 w1 hr1 hg1 hv1)
  go_ret
  refine ⟨v1, rfl, ?_, (Below.refl _ _).grown hg1 (Nat.le_refl _) (fun k hk => by cases hk)⟩
  unfold NOwn
  rw [hn.out]
  simpa using hr1

theorem NOwn.la {w : World} {base p m n c : Nat} {a : Option Addr} {Z : List Int} (h : NOwn w base (.slice a n c) Z) (hp : p < base) (hm : m < base) : LA w p m a Z :=
  ⟨owns_cat h, fun x hx => by subst hx; have := (h.lt x.block rfl).1; omega⟩

/-- What is on its way: each packet is one that was sent. -/
def OnWay (T : List (Option Addr × Nat × List UInt8)) (L : List Pk) : Prop := ∀ q ∈ L, ∃ i : Nat, i < T.length ∧ q.flat = sentOf T i

theorem OnWay.del {T : List (Option Addr × Nat × List UInt8)} {L : List Pk} (h : OnWay T L) (k : Int) : OnWay T (delP L k) := fun q hq => h q (mem_del hq)

theorem nums_cut (L : List Pk) (hr : Rising L) (k : Nat) (hk : k < L.length) (q : Pk) (hq : q = L[k]) : nums (delP L q.num) = (nums L).take k ++ (nums L).drop (k + 1) := by
  have e : L = L.take k ++ q :: L.drop (k + 1) := by rw [hq, ← List.drop_eq_getElem_cons hk, List.take_append_drop]
  have hp : Rising (L.take k ++ q :: L.drop (k + 1)) := by rw [← e]; exact hr
  obtain ⟨_, h2, h3⟩ := List.pairwise_append.1 hp
  have e1 : delP L q.num = L.take k ++ L.drop (k + 1) := by
    refine (congrArg (fun l => delP l q.num) e).trans ?_
    show delP _ _ = _
    unfold delP
    rw [List.filter_append]
    congr 1
    · rw [List.filter_eq_self]
      intro x hx
      have := h3 x hx q (by simp)
      simp
      omega
    · exact del_head q _ h2
  rw [e1]
  simp [nums, List.map_take, List.map_drop]

theorem LA.take {w : World} {p m : Nat} {a : Option Addr} {Z : List Int} (h : LA w p m a Z) (k : Nat) : LA w p m a (Z.take k) := by
  refine ⟨fun hne => ?_, h.off⟩
  obtain ⟨b, o, e, hc⟩ := h.at_ (by intro e; apply hne; simp at e; simp [e])
  refine ⟨b, o, e, fun i hi => ?_⟩
  have hi2 : i < (Z.map I).length := by simp at hi ⊢; omega
  rw [hc i hi2]
  simp

theorem LA.drop {w : World} {p m b o : Nat} {Z : List Int} (h : LA w p m (some ⟨b, o, none⟩) Z) (k : Nat) : LA w p m (some ⟨b, o + k, none⟩) (Z.drop k) := by
  refine ⟨fun hne => ?_, fun x hx => by cases hx; exact h.off ⟨b, o, none⟩ rfl⟩
  refine ⟨b, o + k, rfl, fun i hi => ?_⟩
  have hi2 : k + i < Z.length := by simp at hi; omega
  have := h.cell (k + i) hi2
  rw [Nat.add_assoc, this]
  simp [I]

def sLen : Value → Nat
  | .slice _ n _ => n
  | _ => 0

/-- The packets that were not delivered yet, and the numbers that are left. -/
def O2 (base p m j : Nat) (T : List (Option Addr × Nat × List UInt8)) (w1 wr : World) (a : Option Addr) (n c : Nat) : Prop :=
  ∃ L, NAt wr p m L j ∧ OnWay T L ∧ L.length = n ∧ n ≤ c ∧ LA wr p m a (nums L) ∧ Kp (fun k => base ≤ k ∨ k = p ∨ k = m) w1 wr

theorem LA.rest {w : World} {p m b o c k : Nat} {Z : List Int} (h : LA w p m (some ⟨b, o, none⟩) Z) (hc : Z.length ≤ c) : LA w p m (if c = k then some ⟨b, o, none⟩ else some ⟨b, o + k, none⟩) (Z.drop k) := by
  split
  · rename_i e
    rw [List.drop_eq_nil_of_le (by omega)]
    exact ⟨fun h => absurd rfl h, h.off⟩
  · exact h.drop k

/-- append, as a step of a region that draws, its run told. -/
theorem step_bi {Y : Nat → Option Bool} {o : Oper} {a : Act} {w w' : World} {K : Act → World → Prop} {Q : Exit → Act → World → Prop} {E : Prop} (hg : o.guard = none) (s x : Operand)
    (ho : o.op = .call { callee := .builtin .append, args := #[s, x], argTypes := #[59, 59] }) (hty : o.type = 59) (u v r : Value) (hs : a.eval s = u) (hx : a.eval x = v)
    (hrun : (Builtin.append_ #[59, 59] 59 #[u, v]).run Try.prog w = .ok r w') (hK : K (a.put o.dst r) w') :
    if Region.wanted o Y = true then Oper.wp Try.prog o a w K Q else E := by
  have hw : Region.wanted o Y = true := by simp [Region.wanted, hg]
  rw [if_pos hw]
  unfold Oper.wp
  simp [execOp, ho, hty, resolve, invoke, builtin, hs, hx, hrun, Result.andThen]
  exact hK

end Go.Proofs.Ytgjjgfppolmkoaa
