/- What Records answers. -/
import Derived.Test.YtcbgnodmamcmkaaIter
import Derived.Maps.OwnIn
namespace Go.Proofs.Ytcbgnodmamcmkaa
open Go.RowKit Go.Shelf
attribute [local go_sem] Oper.semAt_some

theorem recin_any (a : Option Addr) (len cap : Nat) (next : Int) (w : World) :
    Calls Try.prog 61 #[.slice a len cap, .int .i64 next] w fun e w' => e = .returned (.func (.func 84) #[] #[.pointer (some ⟨w.heap.size + 1, 0, none⟩), .pointer (some ⟨w.heap.size, 0, none⟩)]) ∧ w' = (w.alloc (.cells #[.slice a len cap] 22)).alloc (.cells #[.int .i64 next] 3) := by
  go_enter Try.func61, Try.ntmps61
  go_wp2
  go_ret
  exact ⟨rfl, rfl⟩

def RX.cells (l : List UInt8) (x : RX) : List Value := [.int .i64 (numAt l x.p : Int), .int .u8 ((kindAt l x.p).toNat : Int), .slice x.a (sizeAt l x.p - 9) x.c]
/-- Where the last one ends. -/
def stopOf (l : List UInt8) (xs : List RX) : Nat := match xs.getLast? with | some x => endAt l x.p | none => 0
theorem stop_snoc (l : List UInt8) (xs : List RX) (x : RX) : stopOf l (xs ++ [x]) = endAt l x.p := by simp [stopOf]

theorem info27b : (Try.prog.info? 27).map (fun i => (i.zero, i.size, i.bytes)) = some (some (.agg #[.int .i64 0, .int .u8 0, .slice none 0 0]), 3, 40) := by kernel_rfl

structure RecI (w w0 : World) (gr gs : Nat) (l : List UInt8) (pre : List RX) (W : World) : Prop where
  box : ∃ v, W.heap[gr]? = some (.cells #[v] 32 (0, 0)) ∧ W.ownsRow w0.heap.size 27 3 v pre.length (pre.flatMap (RX.cells l))
  size : W.heap[gs]? = some (.cells #[.int .i64 (stopOf l pre : Int)] 3 (0, 0))
  bodies : ∀ x ∈ pre, RX.ok w.heap.size l x W
  bel : Below w.heap.size w W
  up : w0.heap.size ≤ W.heap.size

theorem own_up {W W' : World} {row : Option Nat} {base : Nat} {v : Value} {e : TypeId} {size n : Nat} {xs : List Value} (h : W.ownsRow base e size v n xs) (hg : W.grownBy W' row) (hr : ∀ r, row = some r → ∃ o : Obj, W.heap[r]? = some o ∧ o.isCells = false) : W'.ownsRow base e size v n xs := by
  refine ⟨h.1, ?_⟩
  rcases h.2 with h0 | ⟨g, cap, cur, rfl, hb, hgg, rest⟩
  · exact .inl h0
  · refine .inr ⟨g, cap, cur, rfl, hb, ?_, rest⟩
    rw [hg.block g (Array.getElem?_eq_some_iff.1 hgg).1 (fun e => ?_)]
    · exact hgg
    · obtain ⟨o, ho, hc⟩ := hr g e.symm
      rw [hgg] at ho
      cases ho
      cases hc

theorem cells_up {W W' : World} {row : Option Nat} {k : Nat} {cs : Array Value} {t : TypeId} {fr : Nat × Nat} (h : W.heap[k]? = some (.cells cs t fr)) (hg : W.grownBy W' row) (hr : ∀ r, row = some r → ∃ o : Obj, W.heap[r]? = some o ∧ o.isCells = false) : W'.heap[k]? = some (.cells cs t fr) := by
  rw [hg.block k (Array.getElem?_eq_some_iff.1 h).1 (fun e => ?_)]
  · exact h
  · obtain ⟨o, ho, hc⟩ := hr k e.symm
    rw [h] at ho
    cases ho
    cases hc

theorem recI_own (w w0 : World) (gr gs : Nat) (l : List UInt8) (hw : w.heap.size ≤ w0.heap.size) : OwnFrom w0.heap.size (RecI w w0 gr gs l) := by
  intro pre W W' row hI hg hr
  have hr2 : ∀ r, row = some r → ∃ o : Obj, W.heap[r]? = some o ∧ o.isCells = false := fun r e => (hr r e).2
  obtain ⟨v, hv1, hv2⟩ := hI.box
  refine ⟨⟨v, cells_up hv1 hg hr2, own_up hv2 hg hr2⟩, cells_up hI.size hg hr2, fun x hx => ⟨(hI.bodies x hx).1, own_up (hI.bodies x hx).2 hg hr2⟩, ?_, Nat.le_trans hI.up hg.size⟩
  exact hI.bel.grown hg hI.bel.size (fun k e => Nat.le_trans hw (hr k e).1)

/-- A record's box. -/
def RecA (w : World) (l : List UInt8) (fr : RX → Nat → Act) (x : RX) (a' : Act) (W : World) : Prop :=
  RX.ok w.heap.size l x W ∧ ∃ bx, a' = fr x bx ∧ W.heap[bx]? = some (.cells (RX.cells l x).toArray 27 (0, 0))

theorem recA_own (w w0 : World) (l : List UInt8) (fr : RX → Nat → Act) (x : RX) (a' : Act) : OwnFrom w0.heap.size (fun (_ : Unit) W => RecA w l fr x a' W) := by
  intro _ W W' row hI hg hr
  have hr2 : ∀ r, row = some r → ∃ o : Obj, W.heap[r]? = some o ∧ o.isCells = false := fun r e => (hr r e).2
  obtain ⟨h1, bx, h2, h3⟩ := hI
  exact ⟨⟨h1.1, own_up h1.2 hg hr2⟩, bx, h2, cells_up h3 hg hr2⟩

theorem kr_put {w : World} {gr gs : Nat} (_hgr : gr < w.heap.size) (W : World) (k : Nat) (o o' : Obj) (hk : w.heap.size ≤ k) (h : W.heap[k]? = some o) (hc : o.isCells = false) (_ : o.isWalk = false) : Kr gr gs W (W.putObj k o') := by
  have hlt := (Array.getElem?_eq_some_iff.1 h).1
  have hne : ∀ j cs t fr, W.heap[j]? = some (.cells cs t fr) → j ≠ k := fun j cs t fr hj e => by
    subst e; rw [h] at hj; cases hj; cases hc
  have hsz : (W.putObj k o').heap.size = W.heap.size := by simp [World.putObj]
  have hrow : ∀ j, RowOf gr (W.putObj k o') j → RowOf gr W j := fun j ⟨v, hv, hb⟩ => by
    refine ⟨v, ?_, hb⟩
    have hg : gr ≠ k := by omega
    unfold World.cell? at hv ⊢
    rw [World.putObj_heap_other (by omega)] at hv
    exact hv
  exact ⟨by rw [hsz]; exact Nat.le_refl _, fun j cs t fr hj _ _ _ => (World.putObj_heap_other (hne j cs t fr hj)).trans hj, fun j hj => .inl (hrow j hj), fun hl j hj => by rw [hsz]; exact hl j (hrow j hj)⟩

theorem box_set {W : World} {g : Nat} {v : Value} {t : TypeId} (h : W.heap[g]? = some (.cells #[v] t (0, 0))) (u : Value) : (W.setCell ⟨g, 0, none⟩ u).heap[g]? = some (.cells #[u] t (0, 0)) := by
  rw [setCell_eq_setRow W g 0 _ t (0, 0) _ h, setRow_heap W g _ _ t _ h]
  simp

/-- One round's end. -/
theorem rec_step {w w0 W W1 : World} {gr gs : Nat} {l : List UInt8} {pre : List RX} {x : RX} {v v' : Value} {lit : Obj} (hI : RecI w w0 gr gs l pre W) (hgr : w.heap.size ≤ gr) (hgs : w.heap.size ≤ gs) (hgr0 : gr < w0.heap.size) (hgs0 : gs < w0.heap.size) (hne : gr ≠ gs)
    (hv1 : W.heap[gr]? = some (.cells #[v] 32 (0, 0))) (hv2 : W.ownsRow w0.heap.size 27 3 v pre.length (pre.flatMap (RX.cells l))) (hok : RX.ok w.heap.size l x W)
    (ho : W1.ownsRow w0.heap.size 27 3 v' (pre.length + 1) (pre.flatMap (RX.cells l) ++ RX.cells l x)) (hg : (W.alloc lit).grownBy W1 v.ownBlock) (hb : v'.ownBlock = v.ownBlock ∨ v'.ownBlock = some (W.alloc lit).heap.size) :
    W1.heap[gr]? = some (.cells #[v] 32 (0, 0)) ∧ W1.heap[gs]? = some (.cells #[.int .i64 (stopOf l pre : Int)] 3 (0, 0)) ∧
    KeepsFrom w0.heap.size W ((W1.setCell ⟨gr, 0, none⟩ v').setCell ⟨gs, 0, none⟩ (.int .i64 (endAt l x.p : Int))) ∧ Kr gr gs W ((W1.setCell ⟨gr, 0, none⟩ v').setCell ⟨gs, 0, none⟩ (.int .i64 (endAt l x.p : Int))) ∧ RecI w w0 gr gs l (pre ++ [x]) ((W1.setCell ⟨gr, 0, none⟩ v').setCell ⟨gs, 0, none⟩ (.int .i64 (endAt l x.p : Int))) := by
  have bl := below_lit W lit
  have hvb : ∀ k, v.ownBlock = some k → w0.heap.size ≤ k ∧ k < W.heap.size := World.ownsRow.lt hv2
  have hvc : ∀ k o, v.ownBlock = some k → W.heap[k]? = some o → ∃ cs fr, o = .cells cs 27 fr := fun k o hk hko => by
    rcases hv2.2 with ⟨rfl, _⟩ | ⟨g, cap, cur, rfl, _, hgg, _⟩
    · cases hk
    · cases hk; rw [hgg] at hko; cases hko; exact ⟨_, _, rfl⟩
  have k1 : ∀ k o, W.heap[k]? = some o → v.ownBlock ≠ some k → W1.heap[k]? = some o := fun k o hk hn => by
    have hlt := (Array.getElem?_eq_some_iff.1 hk).1
    rw [hg.block k (Nat.lt_of_lt_of_le hlt bl.size) (fun e => hn e.symm), bl.block k hlt]
    exact hk
  have r1 : W1.heap[gr]? = some (.cells #[v] 32 (0, 0)) := k1 _ _ hv1 (fun e => by have := (hvb _ e).1; omega)
  have r2 : W1.heap[gs]? = some (.cells #[.int .i64 (stopOf l pre : Int)] 3 (0, 0)) := k1 _ _ hI.size (fun e => by have := (hvb _ e).1; omega)
  have s1 : (W1.setCell ⟨gr, 0, none⟩ v').heap[gr]? = some (.cells #[v'] 32 (0, 0)) := box_set r1 v'
  have s2 : (W1.setCell ⟨gr, 0, none⟩ v').heap[gs]? = some (.cells #[.int .i64 (stopOf l pre : Int)] 3 (0, 0)) := by rw [Below.heap_setCell _ _ _ _ (fun e => hne e.symm)]; exact r2
  have t1 : ((W1.setCell ⟨gr, 0, none⟩ v').setCell ⟨gs, 0, none⟩ (.int .i64 (endAt l x.p : Int))).heap[gr]? = some (.cells #[v'] 32 (0, 0)) := by rw [Below.heap_setCell _ _ _ _ (fun e => hne e)]; exact s1
  have t2 : ((W1.setCell ⟨gr, 0, none⟩ v').setCell ⟨gs, 0, none⟩ (.int .i64 (endAt l x.p : Int))).heap[gs]? = some (.cells #[.int .i64 (endAt l x.p : Int)] 3 (0, 0)) := box_set s2 _
  have tk : ∀ k, k ≠ gr → k ≠ gs → ((W1.setCell ⟨gr, 0, none⟩ v').setCell ⟨gs, 0, none⟩ (.int .i64 (endAt l x.p : Int))).heap[k]? = W1.heap[k]? := fun k h1 h2 => by
    rw [Below.heap_setCell _ _ _ _ h2, Below.heap_setCell _ _ _ _ h1]
  have hz : ((W1.setCell ⟨gr, 0, none⟩ v').setCell ⟨gs, 0, none⟩ (.int .i64 (endAt l x.p : Int))).heap.size = W1.heap.size := by simp [World.setCell]
  have hzW : W.heap.size ≤ W1.heap.size := Nat.le_trans bl.size hg.size
  have hv'b := World.ownsRow.lt ho
  have hrowv : ∀ k, RowOf gr W k ↔ v.ownBlock = some k := fun k => by
    have hc : W.cell? ⟨gr, 0, none⟩ = some v := cell_of_row W gr 0 _ _ _ hv1
    exact ⟨fun ⟨u, hu, hb⟩ => by rw [hc] at hu; cases hu; exact hb, fun h => ⟨v, hc, h⟩⟩
  have hrow' : ∀ k, RowOf gr ((W1.setCell ⟨gr, 0, none⟩ v').setCell ⟨gs, 0, none⟩ (.int .i64 (endAt l x.p : Int))) k → v'.ownBlock = some k := fun k ⟨u, hu, hb⟩ => by
    have hc := cell_of_row _ gr 0 _ _ _ t1
    rw [hc] at hu
    cases hu
    exact hb
  have others : ∀ {e : TypeId} {sz m : Nat} {u : Value} {xs : List Value} {base : Nat}, W.ownsRow base e sz u m xs → e ≠ 27 → e ≠ 32 → e ≠ 3 → ((W1.setCell ⟨gr, 0, none⟩ v').setCell ⟨gs, 0, none⟩ (.int .i64 (endAt l x.p : Int))).ownsRow base e sz u m xs := fun {e sz m u xs base} hu h1 h2 h3 => by
    refine ⟨hu.1, ?_⟩
    rcases hu.2 with h0 | ⟨g, cap, cur, rfl, hbb, hgg, rest⟩
    · exact .inl h0
    · refine .inr ⟨g, cap, cur, rfl, hbb, ?_, rest⟩
      rw [tk g (fun e2 => by subst e2; rw [hv1] at hgg; cases hgg; exact h2 rfl) (fun e2 => by subst e2; rw [hI.size] at hgg; cases hgg; exact h3 rfl)]
      refine k1 g _ hgg (fun e2 => ?_)
      obtain ⟨cs, fr, e3⟩ := hvc g _ e2 hgg
      cases e3
      exact h1 rfl
  refine ⟨r1, r2, ⟨by rw [hz]; exact hzW, fun k o hB hk hc => ?_⟩, ⟨by rw [hz]; exact hzW, fun k cs t fr hk h1 h2 h3 => ?_, fun k hk => ?_, fun _ k hk => ?_⟩, ⟨⟨v', t1, ?_⟩, ?_, fun y hy => ?_, ?_, ?_⟩⟩
  · have h1 : k ≠ gr := by omega
    have h2 : k ≠ gs := by omega
    rw [tk k h1 h2]
    exact k1 k o hk (fun e => by obtain ⟨cs, fr, e3⟩ := hvc k o e hk; subst e3; cases hc)
  · rw [tk k h1 h2]
    exact k1 k _ hk (fun e => h3 ((hrowv k).2 e))
  · have h1 := hrow' k hk
    rcases hb with h2 | h2
    · exact .inl ((hrowv k).2 (by rw [← h2]; exact h1))
    · rw [h2] at h1
      cases h1
      exact .inr bl.size
  · rw [hz]
    exact (hv'b k (hrow' k hk)).2
  · rw [List.length_append, List.flatMap_append]
    have h1 : ((W1.setCell ⟨gr, 0, none⟩ v').setCell ⟨gs, 0, none⟩ (.int .i64 (endAt l x.p : Int))).ownsRow w0.heap.size 27 3 v' (pre.length + 1) (pre.flatMap (RX.cells l) ++ RX.cells l x) := by
      refine ownsRow_setCell_other (ownsRow_setCell_other ho (a := ⟨gr, 0, none⟩) (fun e => ?_) v') (a := ⟨gs, 0, none⟩) (fun e => ?_) _
      · have := (hv'b _ e).1; simp only at this; omega
      · have := (hv'b _ e).1; simp only at this; omega
    simpa using h1
  · rw [stop_snoc]
    exact t2
  · rcases List.mem_append.1 hy with h1 | h1
    · exact ⟨(hI.bodies y h1).1, others (hI.bodies y h1).2 (by decide) (by decide) (by decide)⟩
    · rw [List.mem_singleton.1 h1]
      exact ⟨hok.1, others hok.2 (by decide) (by decide) (by decide)⟩
  · refine ⟨hg.os.trans (bl.os.trans hI.bel.os), hg.tape.trans (bl.tape.trans hI.bel.tape), hg.output.trans (bl.output.trans hI.bel.output), by rw [hz]; exact Nat.le_trans hI.bel.size hzW, fun k hk => ?_⟩
    rw [tk k (by omega) (by omega), hg.block k (Nat.lt_of_lt_of_le (Nat.lt_of_lt_of_le hk hI.bel.size) bl.size) (fun e => by have := (hvb k e.symm).1; have := hI.bel.size; omega), bl.block k (Nat.lt_of_lt_of_le hk hI.bel.size)]
    exact hI.bel.block k hk
  · rw [hz]
    exact Nat.le_trans hI.up hzW

set_option maxRecDepth 100000 in
set_option maxHeartbeats 4000000 in
theorem records_any (a : Option Addr) (len cap : Nat) (l : List UInt8) (next : Int) (w : World) (hl : l.length = len) (hlen : len ≤ 1000000000) (hcap : len ≤ cap) (hat : At w a l) :
    Calls Try.prog 19 #[.slice a len cap, .int .i64 next] w fun e w' => ∃ (xs : List RX) (v : Value), e = .returned (.tuple #[v, .int .i64 (stopOf l xs : Int)]) ∧ xs.map (·.p) = poss l (len + 1) 0 next ∧ w'.ownsRow w.heap.size 27 3 v xs.length (xs.flatMap (RX.cells l)) ∧ (∀ x ∈ xs, RX.ok w.heap.size l x w') ∧ Below w.heap.size w w' := by
  refine (callsIn_wide (n := 9)).1 ?_
  refine callsIn_of_wp_marks Try.func19 rfl trivial ?_ rfl
  simp only [Try.ntmps19, List.size_toArray, List.length_cons, List.length_nil, Nat.reduceAdd, Nat.reduceSub, Array.replicate_succ, Array.replicate_zero, List.push_toArray, List.append_toArray, List.nil_append, List.cons_append]
  gi_wp2_with fail
  refine ⟨trivial, (callsIn_wide.2 (recin_any a len cap next _)).mono ?_⟩
  rintro e w' ⟨rfl, rfl⟩
  have hs1 : (w.alloc (.cells #[.slice none 0 0] 32)).heap.size = w.heap.size + 1 := by simp
  have hs2 : ((w.alloc (.cells #[.slice none 0 0] 32)).alloc (.cells #[.int .i64 0] 3)).heap.size = w.heap.size + 2 := by simp
  have hs3 : (((w.alloc (.cells #[.slice none 0 0] 32)).alloc (.cells #[.int .i64 0] 3)).alloc (.cells #[.slice a len cap] 22)).heap.size = w.heap.size + 3 := by simp
  have hs4 : ((((w.alloc (.cells #[.slice none 0 0] 32)).alloc (.cells #[.int .i64 0] 3)).alloc (.cells #[.slice a len cap] 22)).alloc (.cells #[.int .i64 next] 3)).heap.size = w.heap.size + 4 := by simp
  have q1 := below_lit w (.cells #[.slice none 0 0] 32)
  have q2 := below_lit (w.alloc (.cells #[.slice none 0 0] 32)) (.cells #[.int .i64 0] 3)
  have q3 := below_lit ((w.alloc (.cells #[.slice none 0 0] 32)).alloc (.cells #[.int .i64 0] 3)) (.cells #[.slice a len cap] 22)
  have q4 := below_lit (((w.alloc (.cells #[.slice none 0 0] 32)).alloc (.cells #[.int .i64 0] 3)).alloc (.cells #[.slice a len cap] 22)) (.cells #[.int .i64 next] 3)
  have b1 : (w.alloc (.cells #[.slice none 0 0] 32)).heap[w.heap.size]? = some (.cells #[.slice none 0 0] 32 (0, 0)) := heap_alloc_new w _
  have b2 := heap_alloc_new (w.alloc (.cells #[.slice none 0 0] 32)) (.cells #[.int .i64 0] 3)
  have b3 := heap_alloc_new ((w.alloc (.cells #[.slice none 0 0] 32)).alloc (.cells #[.int .i64 0] 3)) (.cells #[.slice a len cap] 22)
  have b4 := heap_alloc_new (((w.alloc (.cells #[.slice none 0 0] 32)).alloc (.cells #[.int .i64 0] 3)).alloc (.cells #[.slice a len cap] 22)) (.cells #[.int .i64 next] 3)
  rw [hs1] at b2
  rw [hs2] at b3
  rw [hs3] at b4
  rw [hs2]
  have r1 := (((bnext q2 q3).block w.heap.size (by omega)).trans b1)
  have r1' := (q4.block w.heap.size (by omega)).trans r1
  have r2 := (q4.block (w.heap.size + 1) (by omega)).trans ((q3.block (w.heap.size + 1) (by omega)).trans b2)
  have r3 := (q4.block (w.heap.size + 2) (by omega)).trans b3
  have bb := bnext (bnext (bnext q1 q2) q3) q4
  generalize (((w.alloc (.cells #[.slice none 0 0] 32)).alloc (.cells #[.int .i64 0] 3)).alloc (.cells #[.slice a len cap] 22)).alloc (.cells #[.int .i64 next] 3) = w0 at *
  clear q1 q2 q3 q4 b1 b2 b3 hs1 hs2 hs3 r1
  gi_wp2_with fail
  have hcx : w0.cell? ⟨w.heap.size + 2, 0, none⟩ = some (.slice a len cap) := cell_of_row w0 _ 0 _ _ _ r3
  have hcf : w0.cell? ⟨w.heap.size + 2 + 1, 0, none⟩ = some (.int .i64 next) := cell_of_row w0 _ 0 _ _ _ b4
  have hcr : w0.cell? ⟨w.heap.size, 0, none⟩ = some (.slice none 0 0) := cell_of_row w0 _ 0 _ _ _ r1'
  have hseq := iter_in w.heap.size 8 len cap (w.heap.size + 2 + 1) (w.heap.size + 2) w.heap.size (w.heap.size + 1) a l next w0 hl (by omega) hcap (hat.below bb) hcf hcx (by omega) (by omega)
    (fun hne ad e => by
      obtain ⟨b, o, e2, hc⟩ := hat hne
      rw [e] at e2
      cases e2
      have := World.block_lt_of_cell? _ _ (hc 0 (by cases l with | nil => exact absurd rfl hne | cons => simp))
      simp only at this ⊢
      omega)
    (fun k ⟨v, hv, hb⟩ => by rw [hcr] at hv; cases hv; cases hb) (by omega) (by omega) bb.size
  have hI0 : RecI w w0 w.heap.size (w.heap.size + 1) l [] w0 := ⟨⟨_, r1', World.ownsRow_nil _ _ _ _⟩, r2, (fun x hx => by cases hx), bb, Nat.le_refl _⟩
  have hIo := recI_own w w0 w.heap.size (w.heap.size + 1) l bb.size
  refine wpIn_rangeFunc_R rfl (by omega) (gf := 84) (lb := #[.pointer (some ⟨w.heap.size + 2 + 1, 0, none⟩), .pointer (some ⟨w.heap.size + 2, 0, none⟩)]) rfl trivial (enters_of Try.func84 (by kernel_rfl) rfl) hseq (fun h k => h.trans k) (kr_put (w := w0) (by omega)) (Below.refl _ _) (fun _ => rfl)
    (RecI w w0 w.heap.size (w.heap.size + 1) l) hIo hI0
    (RecA w l (fun x bx => { tmps := #[.slice a len cap, .int .i64 next, undef, undef, .slice none 0 0, .int .i64 0, .pointer (some ⟨w.heap.size, 0, none⟩), .pointer (some ⟨w.heap.size + 1, 0, none⟩), .pointer (some ⟨bx, 0, none⟩), .int .i64 (endAt l x.p : Int), .slice a len cap, .int .i64 next, .func (.func 84) #[] #[.pointer (some ⟨w.heap.size + 2 + 1, 0, none⟩), .pointer (some ⟨w.heap.size + 2, 0, none⟩)], .agg #[.int .i64 (numAt l x.p : Int), .int .u8 ((kindAt l x.p).toNat : Int), .slice x.a (sizeAt l x.p - 9) x.c], .int .i64 (endAt l x.p : Int), undef, undef, undef, undef, undef, undef, undef], defers := [] }))
    (fun x a' => recA_own w w0 l _ x a') ?assign ?body ?done
  case assign =>
    intro l' pre x W K hI hR hK
    have bl := below_lit W (.cells #[.int .i64 (numAt l x.p : Int), .int .u8 ((kindAt l x.p).toNat : Int), .slice x.a (sizeAt l x.p - 9) x.c] 27)
    have hIa := hIo pre W _ none hI (grow_none bl) (fun r e => by cases e)
    have hRa : RX.ok w.heap.size l x _ := ⟨hR.1, owns_below hR.2 bl⟩
    have hup := hI.up
    have hend := hK _ _ ((KeepsOthers.alloc W _).from _) (Kr.of_below bl (by omega)) hIa ⟨hRa, W.heap.size, rfl, heap_alloc_new W _⟩
    replace hIa := hid hIa
    unfold RX.encs
    gi_wp2
    exact hend
  case body =>
    rintro l' pre x a' W hle hI ⟨hok, bx, rfl, hbx⟩ hlen2
    obtain ⟨v, hv1, hv2⟩ := hI.box
    obtain ⟨va, vc, rfl, _⟩ := owns_form hv2
    have bl := below_lit W (.cells #[.int .i64 (numAt l x.p : Int), .int .u8 ((kindAt l x.p).toNat : Int), .slice x.a (sizeAt l x.p - 9) x.c] 27)
    have cr : W.cell? ⟨w.heap.size, 0, none⟩ = some (.slice va pre.length vc) := cell_of_row W _ 0 _ _ _ hv1
    have k0 : W.cell? ⟨bx, 0, none⟩ = some (.int .i64 (numAt l x.p : Int)) := cell_of_row W _ 0 _ _ _ hbx
    have k1 : W.cell? ⟨bx, 1, none⟩ = some (.int .u8 ((kindAt l x.p).toNat : Int)) := cell_of_row W _ 1 _ _ _ hbx
    have k2 : W.cell? ⟨bx, 2, none⟩ = some (.slice x.a (sizeAt l x.p - 9) x.c) := cell_of_row W _ 2 _ _ _ hbx
    have hv3 := owns_below hv2 bl
    have hup := hI.up
    have hbz := bl.size
    obtain ⟨i0, hi, hz0, hz1, hz2⟩ := info_parts info27b
    have hnews : ∀ j u, (RX.cells l x)[j]? = some u → (W.alloc (.cells #[.int .i64 (numAt l x.p : Int), .int .u8 ((kindAt l x.p).toNat : Int), .slice x.a (sizeAt l x.p - 9) x.c] 27)).cell? ((⟨W.heap.size, 0, none⟩ : Addr).add j) = some u := (cat_lit W 27 (RX.cells l x) _ rfl).src
    have hone : ∀ u ∈ RX.cells l x, u.oneCell' = true := fun u hu => by
      simp only [RX.cells, List.mem_cons, List.mem_nil_iff, or_false] at hu
      rcases hu with rfl | rfl | rfl <;> rfl
    have hstep := fun (v' : Value) (w1 : World) (h1 : w1.ownsRow w0.heap.size 27 3 v' (pre.length + 1) (pre.flatMap (RX.cells l) ++ RX.cells l x)) (h2 : (W.alloc (.cells #[.int .i64 (numAt l x.p : Int), .int .u8 ((kindAt l x.p).toNat : Int), .slice x.a (sizeAt l x.p - 9) x.c] 27)).grownBy w1 (Value.slice va pre.length vc).ownBlock) (h3 : v'.ownBlock = (Value.slice va pre.length vc).ownBlock ∨ v'.ownBlock = some (W.alloc (.cells #[.int .i64 (numAt l x.p : Int), .int .u8 ((kindAt l x.p).toNat : Int), .slice x.a (sizeAt l x.p - 9) x.c] 27)).heap.size) => rec_step hI (Nat.le_refl _) (by omega) (by omega) (by omega) (by omega) hv1 hv2 hok h1 h2 h3
    replace hstep := hid hstep
    clear hIo hI0 hseq
    gi_wp2_with (gi_at_builtin; refine wpListIn_append_own_at _ rfl (.tmp 15) (.tmp 17) 32 rfl w0.heap.size 27 i0 _ 3 40 Try.underlying32 hi hz0 hz1 hz2 rfl (by omega) _ pre.length _ rfl hv3 ⟨W.heap.size, 0, none⟩ 1 1 (RX.cells l x) rfl rfl hnews hone (by unfold maxLen; omega) (by omega) (by omega) ?_; intro v' w1 hown' hgrow _ hat'; obtain ⟨g', cap', rfl⟩ := ownsRow_succ hown'; obtain ⟨r1, r2, hkf, hkr, hI2⟩ := hstep.out _ _ hown' hgrow hat'; have c1 := cell_of_row w1 w.heap.size 0 _ _ _ r1; have f1 := frozen_of_row w1 w.heap.size 0 _ _ r1; have c2 := cell_of_row w1 (w.heap.size + 1) 0 _ _ _ r2; have f2 := frozen_of_row w1 (w.heap.size + 1) 0 _ _ r2; simp only [List.getElem?_toArray, List.getElem?_cons_zero] at c1 c2; replace hkf := hid hkf; replace hkr := hid hkr; replace hI2 := hid hI2)
    exact ⟨hkf.out, hkr.out, hI2.out⟩
  case done =>
    rintro D xs W hD hS hI hdd
    obtain ⟨v, hv1, hv2⟩ := hI.box
    have c1 := cell_of_row W w.heap.size 0 _ _ _ hv1
    have c2 := cell_of_row W (w.heap.size + 1) 0 _ _ _ hI.size
    simp only [List.getElem?_toArray, List.getElem?_cons_zero] at c1 c2
    obtain ⟨va, vc, rfl, _⟩ := owns_form hv2
    have hd1 : W.drew.heap[D]? = some (.deferred (some [])) := hdd
    have hI1 := hIo xs W W.drew none hI (grow_none (drew_below W)) (fun r e => by cases e)
    have hI2 := hIo.putObj (.deferred none) hI1 hD hd1 rfl
    obtain ⟨v2, hv3, hv4⟩ := hI2.box
    have hv5 : W.drew.heap[w.heap.size]? = some (.cells #[.slice va xs.length vc] 32 (0, 0)) := hv1
    rw [World.putObj_heap_other (by omega), hv5] at hv3
    obtain rfl : Value.slice va xs.length vc = v2 := by cases hv3; rfl
    clear hIo hI0 hseq hv3
    replace hI2 := hid hI2
    replace hv4 := hid hv4
    gi_wp2
    gi_region
    all_goals
      gi_wp2
      refine ⟨by simp, .inl ⟨_, _, rfl, run_takeDeferred hd1, ?_⟩⟩
      refine ⟨_, (by simp [results, Try.f19]; rfl), ?_⟩
      exact ⟨xs, _, rfl, hS, owns_low hv4.out (by omega), hI2.out.bodies, hI2.out.bel⟩
end Go.Proofs.Ytcbgnodmamcmkaa
