/- closedOf: the times at which a node is not open. -/
import Derived.Test.YtilncacmkfohdaaGreatPfShut
namespace Go.Proofs.YtilncacmkfohdaaGreat.Pf
open Go.RowKit

theorem rawC_yes {C : List Cut} {cores lim : Int} {k : Nat} (h : fr C k < cores) : rawC C cores lim (k + 1) = rawC C cores lim k ++ [(tm C k - lim + 1, en C k)] := if_pos h
theorem rawC_no {C : List Cut} {cores lim : Int} {k : Nat} (h : ¬ fr C k < cores) : rawC C cores lim (k + 1) = rawC C cores lim k := if_neg h
theorem rawB_yes {l : List Span} {node : Nat} {lim : Int} {B : List BlkP} {k : Nat} (h : (bk B k).nodes.testBit node = true) : rawB l node lim B (k + 1) = rawB l node lim B k ++ [((bk B k).f - lim + 1, (bk B k).t)] := if_pos h
theorem rawB_no {l : List Span} {node : Nat} {lim : Int} {B : List BlkP} {k : Nat} (h : (bk B k).nodes.testBit node = false) : rawB l node lim B (k + 1) = rawB l node lim B k := if_neg (by rw [h]; simp)

theorem proper_snoc {l : List Span} {s : Span} (h : ProperL l) (k : s.1 < s.2) : ProperL (l ++ [s]) := by
  intro x hx
  rcases List.mem_append.1 hx with h1 | h1
  · exact h x h1
  · rw [List.mem_singleton.1 h1]; exact k

theorem rawC_proper {C : List Cut} (h : RightP C) {cores lim : Int} (hl : 1 ≤ lim) : ∀ k, k ≤ C.length → ProperL (rawC C cores lim k) := by
  intro k
  induction k with
  | zero => intro _ s hs; simp [rawC] at hs
  | succ k ih =>
    intro hk
    by_cases hc : fr C k < cores
    · rw [rawC_yes hc]
      refine proper_snoc (ih (by omega)) ?_
      have := h.tm_en (show k < C.length by omega)
      show tm C k - lim + 1 < en C k
      omega
    · rw [rawC_no hc]; exact ih (by omega)

theorem rawB_proper {l : List Span} (h : ProperL l) {node : Nat} {lim : Int} (hl : 1 ≤ lim) {B : List BlkP} (hB : ∀ b ∈ B, winP b.f b.t) : ∀ k, k ≤ B.length → ProperL (rawB l node lim B k) := by
  intro k
  induction k with
  | zero => intro _; exact h
  | succ k ih =>
    intro hk
    cases hc : (bk B k).nodes.testBit node
    · rw [rawB_no hc]; exact ih (by omega)
    · rw [rawB_yes hc]
      refine proper_snoc (ih (by omega)) ?_
      have := hB (bk B k) (by rw [← bk_eq (show k < B.length by omega)]; exact List.getElem_mem _)
      show (bk B k).f - lim + 1 < (bk B k).t
      have := this.2.1
      omega

theorem rawL_proper {C : List Cut} (h : RightP C) {A : AskP} (hA : RightAsk A) (node : Nat) : ProperL (rawL C node A) :=
  rawB_proper (rawC_proper h hA.2.2.1.1 _ (Nat.le_refl _)) hA.2.2.1.1 hA.2.2.2.2.2 _ (Nat.le_refl _)

theorem rawC_holds {C : List Cut} {cores lim t : Int} : ∀ k, (HoldsT (rawC C cores lim k) t ↔ ∃ i, i < k ∧ fr C i < cores ∧ tm C i - lim + 1 ≤ t ∧ t < en C i) := by
  intro k
  induction k with
  | zero => exact ⟨fun h => absurd h not_holds_nil, fun ⟨i, h, _⟩ => by omega⟩
  | succ k ih =>
    by_cases hc : fr C k < cores
    · rw [rawC_yes hc, holds_append, holds_one, ih]
      constructor
      · rintro (⟨i, h1, h2⟩ | h)
        · exact ⟨i, by omega, h2⟩
        · exact ⟨k, by omega, hc, h⟩
      · rintro ⟨i, h1, h2, h3⟩
        rcases Nat.lt_or_ge i k with h4 | h4
        · exact .inl ⟨i, h4, h2, h3⟩
        · have : i = k := by omega
          subst this; exact .inr h3
    · rw [rawC_no hc, ih]
      constructor
      · rintro ⟨i, h1, h2⟩; exact ⟨i, by omega, h2⟩
      · rintro ⟨i, h1, h2, h3⟩
        rcases Nat.lt_or_ge i k with h4 | h4
        · exact ⟨i, h4, h2, h3⟩
        · have : i = k := by omega
          subst this; exact absurd h2 hc

theorem rawB_holds {l : List Span} {node : Nat} {lim t : Int} {B : List BlkP} : ∀ k, (HoldsT (rawB l node lim B k) t ↔ HoldsT l t ∨ ∃ i, i < k ∧ (bk B i).nodes.testBit node = true ∧ (bk B i).f - lim + 1 ≤ t ∧ t < (bk B i).t) := by
  intro k
  induction k with
  | zero => exact ⟨.inl, fun h => h.elim id fun ⟨i, h, _⟩ => by omega⟩
  | succ k ih =>
    cases hc : (bk B k).nodes.testBit node
    · rw [rawB_no hc, ih]
      refine or_congr Iff.rfl ?_
      constructor
      · rintro ⟨i, h1, h2⟩; exact ⟨i, by omega, h2⟩
      · rintro ⟨i, h1, h2, h3⟩
        rcases Nat.lt_or_ge i k with h4 | h4
        · exact ⟨i, h4, h2, h3⟩
        · have : i = k := by omega
          subst this; rw [hc] at h2; cases h2
    · rw [rawB_yes hc, holds_append, holds_one, ih]
      constructor
      · rintro ((h | ⟨i, h1, h2⟩) | h)
        · exact .inl h
        · exact .inr ⟨i, by omega, h2⟩
        · exact .inr ⟨k, by omega, hc, h⟩
      · rintro (h | ⟨i, h1, h2, h3⟩)
        · exact .inl (.inl h)
        · rcases Nat.lt_or_ge i k with h4 | h4
          · exact .inl (.inr ⟨i, h4, h2, h3⟩)
          · have : i = k := by omega
            subst this; exact .inr h3

/-- Is a node, whose cuts are C, not open at t? -/
def shutB (C : List Cut) (node : Nat) (A : AskP) (t : Int) : Bool :=
  decide (lsT C t (t + A.limit) C.length < A.cores) || A.bs.any fun b => b.nodes.testBit node && (decide (b.f < t + A.limit) && decide (t < b.t))

theorem shut_raw {C : List Cut} (h : RightP C) {A : AskP} (hA : RightAsk A) (node : Nat) {t : Int} (h0 : 0 ≤ t) (h1 : t ≤ 1099511627776) : shutB C node A t = true ↔ HoldsT (rawL C node A) t := by
  have hlim := hA.2.2.1
  have hls := ls_least h h0 (show t < t + A.limit by omega) (by omega)
  unfold shutB rawL
  rw [rawB_holds, rawC_holds, Bool.or_eq_true, decide_eq_true_eq, List.any_eq_true]
  refine or_congr ?_ ?_
  · constructor
    · intro hlt
      obtain ⟨s, s1, s2, s3⟩ := hls.2
      obtain ⟨k, hk⟩ := find h.1 h.2.2.1 (show 0 ≤ s by omega)
      rw [val_in h.rise hk] at s3
      have := hk.2.1
      have := in_en hk (by omega)
      exact ⟨k, hk.1, by omega, by omega, by omega⟩
    · rintro ⟨i, hi, h2, h3, h4⟩
      have hte := h.tm_en hi
      have hv := val_in h.rise (in_of (t := max t (tm C i)) hi (by omega) (by omega))
      have := hls.1 (max t (tm C i)) (by omega) (by omega)
      omega
  · constructor
    · rintro ⟨b, hb, hc⟩
      simp only [Bool.and_eq_true, decide_eq_true_eq] at hc
      obtain ⟨i, hi, rfl⟩ := List.getElem_of_mem hb
      rw [bk_eq hi] at hc
      exact ⟨i, hi, hc.1, by omega, hc.2.2⟩
    · rintro ⟨i, hi, h2, h3, h4⟩
      refine ⟨bk A.bs i, by rw [← bk_eq hi]; exact List.getElem_mem _, ?_⟩
      simp only [Bool.and_eq_true, decide_eq_true_eq]
      exact ⟨h2, by omega, h4⟩

theorem joined_any (v : Value) (base : Nat) (l : List Span) (w : World) (hl : l.length ≤ 100000) (h : SpOwn w base v l) (hp : ProperL l) :
    Calls Tryz.prog 72 #[v] w fun e w' => JTold l (fun k => v.ownBlock = some k) w e w' := by
  rcases Nat.eq_zero_or_pos l.length with h0 | h0
  · have hnil : l = [] := List.eq_nil_of_length_eq_zero h0
    subst hnil
    obtain ⟨a, c, e, _⟩ := owns_form h
    simp only [List.length_nil] at e
    subst e
    have kS := fun w => sort_none a c w
    clear h hp hl h0
    go_enter Tryz.func72, Tryz.ntmps72
    go_wp2_with fail
    refine (kS _).mono ?_
    rintro e w1 ⟨rfl, rfl⟩
    go_wp2_with fail
    refine wp_loop_rounds 1 ?_
    rw [rounds_succ]
    go_wp2
    go_ret
    exact ⟨none, 0, [], rfl, ⟨⟨fun i hi => absurd hi (by simp), fun i hi => absurd hi (by simp)⟩, fun t => Iff.rfl, Nat.le_refl _⟩, SpOwn.nil _ _, Kp.refl _ _⟩
  · obtain ⟨g, c, e, _, hg⟩ := h.form h0
    subst e
    refine (joined_some g l.length c l w rfl hl h0 hg (h.row rfl) hp).mono ?_
    rintro e w' ⟨ad, k, L, rfl, hJ, hO, hK⟩
    exact ⟨ad, k, L, rfl, hJ, hO, hK.mono fun k _ e => by subst e; rfl⟩

theorem cells3 {w : World} (x y z : Value) : (w.alloc (.cells #[x, y, z] 96)).cell? ⟨w.heap.size, 0, none⟩ = some x ∧ (w.alloc (.cells #[x, y, z] 96)).cell? ⟨w.heap.size, 1, none⟩ = some y ∧ (w.alloc (.cells #[x, y, z] 96)).cell? ⟨w.heap.size, 2, none⟩ = some z := by
  have h : (w.alloc (.cells #[x, y, z] 96)).heap[w.heap.size]? = some (.cells #[x, y, z] 96 (0, 0)) := heap_alloc_new w _
  refine ⟨?_, ?_, ?_⟩ <;> (unfold World.cell?; simp only [h]; rfl)

def CTold (C : List Cut) (node : Nat) (A : AskP) (w : World) (e : Ending) (w' : World) : Prop :=
  ∃ ad k L, e = .returned (.slice ad L.length k) ∧ JoinOf (rawL C node A) L ∧ SpOwn w' w.heap.size (.slice ad L.length k) L ∧ Below w.heap.size w w'

set_option maxRecDepth 100000 in
set_option maxHeartbeats 2000000 in
theorem closedof_any (a : Option Addr) (n c : Nat) (C : List Cut) (node : Nat) (A : AskP) (ba : Option Addr) (bn bc0 : Nat) (w : World) (hn : C.length = n) (hr : RightP C) (hat : SAt w a C) (hA : RightAsk A) (hbn : A.bs.length = bn) (hbs : ∀ b ∈ A.bs, b.nodes < 4294967296) (hnode : node < 32) (hba : BAt w ba A.bs) :
    Calls Tryz.prog 48 #[.slice a n c, .int .i64 (node : Int), A.val ba bn bc0] w fun e w' => CTold C node A w e w' := by
  have hn2 : n ≤ 4096 := by have := hr.2.1; omega
  have hbn2 : bn ≤ 4096 := by have := hA.2.2.2.2.1; omega
  obtain ⟨b, o, e⟩ := hat.place (by have := hr.1; omega)
  subst e
  have hlim0 := hA.2.2.1.1
  have hlim1 := hA.2.2.1.2
  have cs0 : CS w ((w.alloc (.cells (A.cells ba bn bc0) 50)).alloc (.cells #[.slice none 0 0] 69)) w.heap.size A ba bn bc0 [] := by
    have h1 := (ABlk.new w A ba bn bc0).below (below_lit _ (.cells #[.slice none 0 0] 69))
    have h2 := One.new (w.alloc (.cells (A.cells ba bn bc0) 50)) (.slice none 0 0) 69
    rw [size_alloc] at h2
    refine ⟨h1, ⟨none, 0, h2, SpOwn.nil _ _⟩, Nat.le_refl _, ?_, two_new _ _ _⟩
    rw [size_alloc, size_alloc]; omega
  replace cs0 := hid cs0
  have hv : A.val ba bn bc0 = .agg (A.cells ba bn bc0) := rfl
  rw [hv]
  clear hv
  replace hn := hid hn
  replace hr := hid hr
  replace hat := hid hat
  replace hA := hid hA
  replace hbn := hid hbn
  replace hbs := hid hbs
  replace hba := hid hba
  go_enter Tryz.func48, Tryz.ntmps48
  go_wp2_with fail
  go_loopw [15] (fun i wr => ∃ j : Nat, j ≤ n ∧ i = .int .i64 (j : Int) ∧ Hid (CS w wr w.heap.size A ba bn bc0 (rawC C A.cores A.limit j))) (fun i _ => n - (intOf i).toNat)
  case atStart => exact ⟨0, Nat.zero_le _, rfl, cs0⟩
  case round =>
    obtain ⟨j, hj, rfl, hcs⟩ := hrel
    by_cases hlt : j < n
    · have hjL : j < C.length := by rw [hn.out]; exact hlt
      have hb := hcs.out.bel
      have hatr := hid (hat.out.below hb)
      obtain ⟨x0, x1⟩ := hatr.out.one hjL
      have c1 := hcs.out.ask.c1
      have hlen := rawC_len C A.cores A.limit j
      by_cases hlow : fr C j < A.cores
      · have dlow : decide (fr C j < A.cores) = true := decide_eq_true hlow
        have hraw := hid (rawC_yes (lim := A.limit) hlow)
        have htm0 := hr.out.tm_nonneg hjL
        have htm1 := (hr.out.2.2.2 j hjL).1
        have kE := fun w' (h : Below wr.heap.size wr w') => endof_any (some ⟨b, o, none⟩) n c C j w' hn.out hn2 hlt (hatr.out.below h)
        have kS := fun w' (h : Below wr.heap.size wr w') => shut_any w w.heap.size A ba bn bc0 _ (tm C j) (en C j) w' (hcs.out.below h) (by omega) htm0 htm1 hlim0 hlim1
        have hcell := hid (fun w' (h : Below w.heap.size w w') => ((hat.out.below h).one hjL).1)
        unfold ptr at kS
        rw [← hraw.out] at kS
        replace hlow := hid hlow
        generalize fr C j = Y at *
        generalize tm C j = X at *
        generalize en C j = Z at *
        generalize A.cores = V at *
        go_wp2_with fail
        go_quiet (fail)
        have bq := below_drewN (Below.refl wr.heap.size wr) nq
        have x0q := stay bq x0
        generalize wr.drewN nq = wq at *
        go_wp2_with fail
        go_region_held (fun w' : World => w'.cell? ⟨b, o + j * 2, none⟩ = some (.int .i64 X))
          (first | exact hcell.out _ hcs5.bel | exact x0q)
          (first | (go_at_call 71; refine (kE _ (bnext bq (drew_below _))).mono ?_; rintro e w4 ⟨rfl, rfl⟩) | (go_at_call 70; refine (kS _ (bnext bq (drew_below _))).mono ?_; rintro e w5 ⟨rfl, hcs5⟩))
        replace hcs5 := hid hcs5
        go_wp2_with fail
        go_roundw
        case rel => exact ⟨j + 1, by omega, by go_num, hcs5⟩
        case measure => simp [intOf]; omega
      · have dlow : decide (fr C j < A.cores) = false := decide_eq_false hlow
        have hraw := hid (rawC_no (lim := A.limit) hlow)
        have hcs2 := hid (show ∀ q, CS w (wr.drewN q) w.heap.size A ba bn bc0 (rawC C A.cores A.limit (j + 1)) from fun q => by rw [hraw.out]; exact hcs.out.below (below_drewN (Below.refl _ _) q))
        replace hlow := hid hlow
        generalize fr C j = Y at *
        generalize tm C j = X at *
        generalize A.cores = V at *
        go_wp2_with fail
        go_quiet (fail)
        have hcs3 := hid (hcs2.out nq)
        generalize wr.drewN nq = wq at *
        go_wp2_with fail
        go_roundw
        case rel => exact ⟨j + 1, by omega, by go_num, hcs3⟩
        case measure => simp [intOf]; omega
    · have hje : j = n := by omega
      subst hje
      have hcs1 := hid (show CS w wr w.heap.size A ba bn bc0 (rawB (rawC C A.cores A.limit C.length) node A.limit A.bs 0) by rw [hn.out]; exact hcs.out)
      have hl0 := rawC_len C A.cores A.limit C.length
      rw [hn.out] at hl0
      have hl1 : (rawC C A.cores A.limit C.length).length ≤ 4096 := by rw [hn.out]; omega
      have c5 := hcs.out.ask.c5
      have hfin := hid (show rawL C node A = rawB (rawC C A.cores A.limit C.length) node A.limit A.bs A.bs.length from rfl)
      have hprp := hid (rawL_proper hr.out hA.out node)
      rw [hfin.out, hbn.out] at hprp
      rw [hbn.out] at hfin
      clear hcs hl0
      generalize rawC C A.cores A.limit C.length = l0 at *
      go_wp2_with fail
      go_loopw [40] (fun i wr => ∃ k : Nat, k ≤ bn ∧ i = .int .i64 (k : Int) ∧ Hid (CS w wr w.heap.size A ba bn bc0 (rawB l0 node A.limit A.bs k))) (fun i _ => bn - (intOf i).toNat)
      case atStart => exact ⟨0, Nat.zero_le _, rfl, hcs1⟩
      case round =>
        obtain ⟨k, hk, rfl, hcs⟩ := hrel
        have hlen := rawB_len l0 node A.limit A.bs k
        by_cases hlt2 : k < bn
        · have hkB : k < A.bs.length := by rw [hbn.out]; exact hlt2
          have hb := hcs.out.bel
          obtain ⟨b2, o2, e⟩ := hba.out.place (by omega)
          subst e
          obtain ⟨x0, x1, x2⟩ := (hba.out.below hb).one hkB
          have hmem := hid (List.getElem_mem hkB)
          have hb32 := hbs.out _ hmem.out
          have hwin := hA.out.2.2.2.2.2 _ hmem.out
          rw [bk_eq hkB] at x0 x1 x2 hb32 hwin
          clear hmem
          cases hbit : (bk A.bs k).nodes.testBit node
          · have hraw := hid (rawB_no (l := l0) (lim := A.limit) hbit)
            have kH := fun w => phas_any (bk A.bs k).nodes node hb32 hnode w
            rw [hbit] at kH
            clear hwin
            replace hbit := hid hbit
            generalize (bk A.bs k).nodes = X0 at *
            generalize (bk A.bs k).f = X1 at *
            generalize (bk A.bs k).t = X2 at *
            obtain ⟨z0, _, _⟩ := cells3 (w := wr) (.int .u32 (X0 : Int)) (.int .i64 X1) (.int .i64 X2)
            have bl := below_lit wr (.cells #[.int .u32 (X0 : Int), .int .i64 X1, .int .i64 X2] 96)
            have hcs2 := hid (show CS w (wr.alloc (.cells #[.int .u32 (X0 : Int), .int .i64 X1, .int .i64 X2] 96)) w.heap.size A (some ⟨b2, o2, none⟩) bn bc0 (rawB l0 node A.limit A.bs (k + 1)) by rw [hraw.out]; exact hcs.out.below bl)
            go_wp2_with fail
            refine (kH _).mono ?_
            rintro e w4 ⟨rfl, rfl⟩
            go_wp2_with fail
            go_roundw
            case rel => exact ⟨k + 1, by omega, by go_num, hcs2⟩
            case measure => simp [intOf]; omega
          · have hraw := hid (rawB_yes (l := l0) (lim := A.limit) hbit)
            have kH := fun w => phas_any (bk A.bs k).nodes node hb32 hnode w
            rw [hbit] at kH
            have kS := fun w' (h : Below wr.heap.size wr w') => shut_any w w.heap.size A (some ⟨b2, o2, none⟩) bn bc0 _ (bk A.bs k).f (bk A.bs k).t w' (hcs.out.below h) (by omega) hwin.1 (by have := hwin.2; omega) hlim0 hlim1
            unfold ptr at kS
            rw [← hraw.out] at kS
            clear hwin
            replace hbit := hid hbit
            generalize (bk A.bs k).nodes = X0 at *
            generalize (bk A.bs k).f = X1 at *
            generalize (bk A.bs k).t = X2 at *
            obtain ⟨z0, z1, z2⟩ := cells3 (w := wr) (.int .u32 (X0 : Int)) (.int .i64 X1) (.int .i64 X2)
            have bl := below_lit wr (.cells #[.int .u32 (X0 : Int), .int .i64 X1, .int .i64 X2] 96)
            go_wp2_with fail
            refine (kH _).mono ?_
            rintro e w4 ⟨rfl, rfl⟩
            go_wp2_with fail
            refine (kS _ bl).mono ?_
            rintro e w5 ⟨rfl, hcs5⟩
            replace hcs5 := hid hcs5
            go_wp2_with fail
            go_roundw
            case rel => exact ⟨k + 1, by omega, by go_num, hcs5⟩
            case measure => simp [intOf]; omega
        · have hke : bn = k := by omega
          subst hke
          rw [← hfin.out] at hcs hlen hprp
          obtain ⟨ad, c9, hO, hS⟩ := hcs.out.row
          have cl := hO.cell
          have kJ := joined_any _ _ _ wr (by omega) hS hprp.out
          have hlow := hcs.out.old
          have hS2 := hid hS
          have hO2 := hid hO
          clear hS hO
          generalize hll : (rawL C node A).length = ll at *
          replace hll := hid hll
          go_wp2_with fail
          refine kJ.mono ?_
          rintro e w6 ⟨ad6, k6, L, rfl, hJ, hO6, hK⟩
          have hB6 : Below w.heap.size w w6 := hcs.out.bel.trans (hK.below (fun k hk => by have := (World.ownsRow.lt hS2.out k hk).1; omega) hcs.out.bel.size)
          have hJ6 := hid hJ
          have hO7 := hid (hO6.low (hcs.out.bel.size))
          clear hJ hO6 hK kJ
          go_wp2
          go_ret
          exact ⟨ad6, k6, L, rfl, hJ6.out, hO7.out, hB6⟩

end Go.Proofs.YtilncacmkfohdaaGreat.Pf
