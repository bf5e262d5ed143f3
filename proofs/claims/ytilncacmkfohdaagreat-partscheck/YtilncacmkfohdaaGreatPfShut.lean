/- When a node is closed: spans gathered from cuts and blocks. -/
import Derived.Test.YtilncacmkfohdaaGreatPfJoin
namespace Go.Proofs.YtilncacmkfohdaaGreat.Pf
open Go.RowKit

/-- The spans of the cuts that are too low. -/
def rawC (C : List Cut) (cores lim : Int) : Nat → List Span
  | 0 => []
  | k + 1 => if fr C k < cores then rawC C cores lim k ++ [(tm C k - lim + 1, en C k)] else rawC C cores lim k
def bk (B : List BlkP) (i : Nat) : BlkP := B.getD i ⟨0, 0, 0⟩
def rawB (l : List Span) (node : Nat) (lim : Int) (B : List BlkP) : Nat → List Span
  | 0 => l
  | k + 1 => if (bk B k).nodes.testBit node then rawB l node lim B k ++ [((bk B k).f - lim + 1, (bk B k).t)] else rawB l node lim B k
def rawL (C : List Cut) (node : Nat) (A : AskP) : List Span := rawB (rawC C A.cores A.limit C.length) node A.limit A.bs A.bs.length

theorem bk_eq {B : List BlkP} {i : Nat} (h : i < B.length) : B[i] = bk B i := by simp [bk, List.getD, h]
theorem rawC_len (C : List Cut) (cores lim : Int) (k : Nat) : (rawC C cores lim k).length ≤ k := by
  induction k with
  | zero => simp [rawC]
  | succ k ih =>
    unfold rawC; split
    · simp; omega
    · omega
theorem rawB_len (l : List Span) (node : Nat) (lim : Int) (B : List BlkP) (k : Nat) : (rawB l node lim B k).length ≤ l.length + k := by
  induction k with
  | zero => simp [rawB]
  | succ k ih =>
    unfold rawB; split
    · simp; omega
    · omega

theorem endof_any (a : Option Addr) (n c : Nat) (C : List Cut) (i : Nat) (w : World) (hn : C.length = n) (hl : n ≤ 4096) (hi : i < n) (hat : SAt w a C) :
    Calls Tryz.prog 71 #[.slice a n c, .int .i64 (i : Int)] w fun e w' => e = .returned (.int .i64 (en C i)) ∧ w' = w := by
  obtain ⟨b, o, e⟩ := hat.place (by omega)
  subst e
  have hiw : IntKind.i64.wrap ((i : Int) + 1) = (i : Int) + 1 := by rw [IntKind.wrap_i64]; omega
  by_cases h : i + 1 < n
  · have hf := hid (en_in (C := C) (k := i) (by omega))
    have x0 := (hat.one (show i + 1 < C.length by omega)).1
    have d : decide ((i : Int) + 1 < (n : Int)) = true := decide_eq_true (by omega)
    replace hn := hid hn
    clear hat
    generalize tm C (i + 1) = X at *
    go_enter Tryz.func71, Tryz.ntmps71
    go_wp2
    go_ret
    rw [hf.out]
    exact ⟨rfl, rfl⟩
  · have hf := hid (en_out (C := C) (k := i) (by omega))
    have d : decide ((i : Int) + 1 < (n : Int)) = false := decide_eq_false (by omega)
    replace hn := hid hn
    clear hat
    go_enter Tryz.func71, Tryz.ntmps71
    go_wp2
    go_ret
    rw [hf.out]
    exact ⟨rfl, rfl⟩

/-- What the closure that shuts a time shares. -/
structure CS (w0 w : World) (g : Nat) (A : AskP) (ba : Option Addr) (bn bc0 : Nat) (l : List Span) : Prop where
  ask : ABlk w g A ba bn bc0
  row : ∃ ad c, One w (g + 1) (.slice ad l.length c) 69 ∧ SpOwn w (g + 2) (.slice ad l.length c) l
  old : w0.heap.size ≤ g
  size : g + 2 ≤ w.heap.size
  bel : Below w0.heap.size w0 w

theorem CS.below {w0 w w' : World} {g : Nat} {A : AskP} {ba : Option Addr} {bn bc0 : Nat} {l : List Span} (h : CS w0 w g A ba bn bc0 l) (hb : Below w.heap.size w w') : CS w0 w' g A ba bn bc0 l := by
  obtain ⟨ad, c, h1, h2⟩ := h.row
  exact ⟨h.ask.below hb, ⟨ad, c, h1.below hb, h2.below hb⟩, h.old, Nat.le_trans h.size hb.size, bnext h.bel hb⟩

set_option maxRecDepth 100000 in
set_option maxHeartbeats 800000 in
theorem shut_any (w0 : World) (g : Nat) (A : AskP) (ba : Option Addr) (bn bc0 : Nat) (l : List Span) (x y : Int) (w : World) (h : CS w0 w g A ba bn bc0 l) (hl : l.length ≤ 90000) (hx0 : 0 ≤ x) (hx1 : x ≤ 2199023255552) (hA0 : 1 ≤ A.limit) (hA1 : A.limit ≤ 1048576) :
    Calls Tryz.prog 70 #[.int .i64 x, .int .i64 y, ptr (g + 1), ptr g] w fun e w' => e = .returned (.tuple #[]) ∧ CS w0 w' g A ba bn bc0 (l ++ [(x - A.limit + 1, y)]) := by
  obtain ⟨i0, hi0, hz0, hz1, hz2⟩ := info_parts info93
  obtain ⟨ad, c, h1, h2⟩ := h.row
  have c0 := h1.cell
  have c1 := h.ask.c2
  have hw1 : IntKind.i64.wrap (x - A.limit) = x - A.limit := by rw [IntKind.wrap_i64]; omega
  have hw2 : IntKind.i64.wrap (x - A.limit + 1) = x - A.limit + 1 := by rw [IntKind.wrap_i64]; omega
  have hg1 := h1.lt
  replace h := hid h
  unfold ptr
  generalize hlim : A.limit = lim at *
  replace hlim := hid hlim
  generalize hll : l.length = ll at *
  replace hll := hid hll
  go_enter Tryz.func70, Tryz.ntmps70
  go_wp2_with (at_builtin; refine Hid.out ?_)
  refine hid ?_
  have bl := below_lit w (.cells #[.int .i64 (x - lim + 1), .int .i64 y] 103)
  have hsz := size_alloc w (.cells #[.int .i64 (x - lim + 1), .int .i64 y] 103)
  have h4 := h2.below bl
  have hv4 := h4
  unfold SpOwn at hv4
  rw [hll.out] at hv4
  have hcs := h.out.below bl
  have h1b := h1.below bl
  refine wpList_cat _ rfl (.tmp 6) (.tmp 14) 69 rfl (g + 2) 103 i0 _ 2 16 Tryz.underlying69 hi0 hz0 hz1 hz2 rfl (by omega) _ _ _ rfl hv4 (some ⟨w.heap.size, 0, none⟩) 1 1 [.int .i64 (x - lim + 1), .int .i64 y] rfl rfl (cat_lit _ _ _ _ rfl) (two_one _ _) (by unfold maxLen; omega) (by omega) (by have := h.out.size; omega) ?_
  intro v5 w5 hr5 hg5 hv5
  have kg := Kp.grown hg5
  have hne : ∀ k, k < g + 2 → ¬ (Value.slice ad ll c).ownBlock = some k := fun k hk e => by have := (hv4.lt k e).1; omega
  have o5 := h1b.kp kg (hne _ (by omega))
  have a5 := hcs.ask.kp kg (hne _ (by omega))
  have f5 := o5.free
  have cc5 := o5.cell
  have B5 := hcs.bel.grown hg5 hcs.bel.size (fun k hk => by have := (hv4.lt k hk).1; have := h.out.old; omega)
  obtain ⟨ad5, c5, e5, _⟩ := owns_form hr5
  subst e5
  clear hv5
  replace kg := hid kg
  replace hg5 := hid hg5
  go_wp2_with fail
  go_end0
  refine ⟨rfl, ?_⟩
  have k6 := kp_one (w := w5) (g := g + 1) (.slice ad5 (ll + 1) c5)
  have hll2 : (l ++ [(x - lim + 1, y)]).length = ll + 1 := by rw [List.length_append, hll.out]; rfl
  refine ⟨a5.kp k6 (by omega), ⟨ad5, c5, ?_, ?_⟩, h.out.old, ?_, ?_⟩
  · rw [hll2]; exact o5.set _
  · rw [hll2]
    have hr6 : SpOwn w5 (g + 2) (.slice ad5 (ll + 1) c5) (l ++ [(x - lim + 1, y)]) := by
      unfold SpOwn
      rw [hll2, List.flatMap_append]
      exact hr5
    refine owns_kp hr6 k6 fun k hk e => ?_
    subst e
    have := (World.ownsRow.lt hr6 _ hk).1
    omega
  · have := k6.size
    have := kg.out.size
    have := h.out.size
    omega
  · exact B5.setCell (p := ⟨g + 1, 0, none⟩) (by have := h.out.old; show w0.heap.size ≤ g + 1; omega) _

end Go.Proofs.YtilncacmkfohdaaGreat.Pf
