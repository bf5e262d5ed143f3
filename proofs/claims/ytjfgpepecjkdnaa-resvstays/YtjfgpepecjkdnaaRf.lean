/- A reservation with its accounts apart; those of a list that a closure keeps. -/
import Derived.Test.YtjfgpepecjkdnaaRe
namespace Go.Proofs.Ytjfgpepecjkdnaa
open Go.RowKit
set_option linter.unusedVariables false

theorem info38r : (Try.prog.info? 38).map (fun i => (i.zero, i.size, i.bytes)) = some (some (.agg #[.string ByteArray.empty, .int .u32 0, .int .i64 0, .int .i64 0, .slice none 0 0]), 5, 64) := by kernel_rfl

set_option maxRecDepth 100000 in
set_option maxHeartbeats 1000000 in
theorem apart_any (s : Prt) (D : List ByteArray) (w : World) (hD : D.length = s.dn) (hl : s.dn * 16 ≤ 140737488355328) (hat : TAt w s.da D) :
    Calls Try.prog 38 #[.agg (pc5 s).toArray] w fun e w' => ∃ x y, e = .returned (.agg (pc5 (s.re x y)).toArray) ∧ s.dn ≤ y ∧ TOwn w' (w.heap.size + 1 + 1) (.slice x s.dn y) D ∧ Below w.heap.size w w' := by
  obtain ⟨i0, hi, hz0, hz1, hz2⟩ := info_parts info9
  obtain ⟨W0, hW0⟩ : ∃ W0, W0 = (w.alloc (.cells (pc5 s).toArray 38)).alloc (.cells #[.string ⟨#[]⟩, .int .u32 0, .int .i64 0, .int .i64 0, .slice none 0 0] 38) := ⟨_, rfl⟩
  have bl0 := below_lit w (.cells (pc5 s).toArray 38)
  have bl1 := below_lit (w.alloc (.cells (pc5 s).toArray 38)) (.cells #[.string ⟨#[]⟩, .int .u32 0, .int .i64 0, .int .i64 0, .slice none 0 0] 38)
  have bl := bnext bl0 bl1
  have r0 : W0.heap[w.heap.size]? = some (.cells (pc5 s).toArray 38 (0, 0)) := by
    rw [hW0, bl1.block _ (by rw [size_lit]; omega)]; exact heap_alloc_new w _
  have r1 : W0.heap[w.heap.size + 1]? = some (.cells #[.string ⟨#[]⟩, .int .u32 0, .int .i64 0, .int .i64 0, .slice none 0 0] 38 (0, 0)) := by
    have := heap_alloc_new (w.alloc (.cells (pc5 s).toArray 38)) (.cells #[.string ⟨#[]⟩, .int .u32 0, .int .i64 0, .int .i64 0, .slice none 0 0] 38)
    rw [size_lit] at this
    rw [hW0]; exact this
  rw [← hW0] at bl
  have hsz : W0.heap.size = w.heap.size + 1 + 1 := by rw [hW0, size_lit, size_lit]
  clear bl0 bl1
  have hat0 := hid (hat.below bl)
  have y7 := row_cell r0 4 (.slice s.da s.dn s.dc) rfl
  have y7u := y7
  rw [hW0] at y7u
  have hon : W0.ownsRow W0.heap.size 9 1 (.slice none 0 0) 0 [] := World.ownsRow_nil _ _ _ _
  have hDl : Hid ((D.map S).length = s.dn * 1) := hid (by rw [List.length_map, hD, Nat.mul_one])
  have hDo := hid (S_one D)
  have hmx : 0 + s.dn ≤ maxLen := by unfold maxLen; omega
  have hbd : (0 + s.dn) * 16 ≤ 140737488355328 := by omega
  replace hmx := hid hmx
  replace hbd := hid hbd
  replace hon := hid hon
  replace hD := hid hD
  replace hat := hid hat
  go_enter Try.func38, Try.ntmps38
  go_wp2_with (at_builtin; refine Hid.out ?_)
  rw [← hW0]
  replace hW0 := hid hW0
  refine wpList_cat _ rfl (.const (.slice none 0 0)) (.tmp 4) 36 rfl W0.heap.size 9 i0 _ 1 16 Try.underlying36 hi hz0 hz1 hz2 rfl (by omega) (.slice none 0 0) 0 [] rfl hon.out s.da s.dn s.dc (D.map S) rfl hDl.out hat0.out hDo.out hmx.out hbd.out (Nat.le_refl _) ?_
  intro v' w1 ho4 hg4 hv4
  rw [Nat.zero_add, List.nil_append] at ho4
  have hb1 : Below W0.heap.size W0 w1 := Below.grown (Below.refl _ _) hg4 (Nat.le_refl _) (fun j hj => by simp [Value.ownBlock] at hj)
  obtain ⟨x, y, e, hy⟩ := owns_form ho4
  subst e
  have ho : TOwn w1 W0.heap.size (.slice x s.dn y) D := by unfold TOwn; rw [hD.out]; exact ho4
  clear ho4 hg4 hv4
  have D1 := bnext bl hb1
  have q0 : w1.heap[w.heap.size]? = some (.cells (pc5 s).toArray 38 (0, 0)) := by rw [hb1.block _ (by omega)]; exact r0
  have q1 : w1.heap[w.heap.size + 1]? = some (.cells #[.string ⟨#[]⟩, .int .u32 0, .int .i64 0, .int .i64 0, .slice none 0 0] 38 (0, 0)) := by rw [hb1.block _ (by omega)]; exact r1
  replace y7 := row_cell q0 4 (.slice s.da s.dn s.dc) rfl
  have f7 := row_free q0 4
  have hset : w1.setCell ⟨w.heap.size, 4, none⟩ (.slice x s.dn y) = w1.setRow w.heap.size (pc5 (s.re x y)).toArray := by
    rw [setCell_eq_setRow _ _ _ _ _ _ _ q0]; rfl
  have u0 : (w1.setCell ⟨w.heap.size, 4, none⟩ (.slice x s.dn y)).heap[w.heap.size]? = some (.cells (pc5 (s.re x y)).toArray 38 (0, 0)) := by
    rw [hset]; exact setRow_heap _ _ _ _ _ _ q0
  have u1 : (w1.setCell ⟨w.heap.size, 4, none⟩ (.slice x s.dn y)).heap[w.heap.size + 1]? = some (.cells #[.string ⟨#[]⟩, .int .u32 0, .int .i64 0, .int .i64 0, .slice none 0 0] 38 (0, 0)) := by
    rw [hset, setRow_other _ _ _ (by omega)]; exact q1
  have D2 : Below w.heap.size w (w1.setCell ⟨w.heap.size, 4, none⟩ (.slice x s.dn y)) := Below.setCell D1 (Nat.le_refl _) _
  have D3 : Below w.heap.size w ((w1.setCell ⟨w.heap.size, 4, none⟩ (.slice x s.dn y)).setRow (w.heap.size + 1) (pc5 (s.re x y)).toArray) := below_setRow D2 (by omega) _
  have K3 : Kp (fun k => k = w.heap.size ∨ k = w.heap.size + 1) w1 ((w1.setCell ⟨w.heap.size, 4, none⟩ (.slice x s.dn y)).setRow (w.heap.size + 1) (pc5 (s.re x y)).toArray) := by
    rw [hset]
    exact kp_setRow (kp_setRow (Kp.refl _ _) (.inl rfl) _) (.inr rfl) _
  have o3 := owns_low (base := W0.heap.size) (owns_kp ho K3 (fun k hk h => by have := (World.ownsRow.lt ho k hk).1; omega)) (show w.heap.size + 1 + 1 ≤ W0.heap.size by omega)
  have v1 := setRow_heap (w1.setCell ⟨w.heap.size, 4, none⟩ (.slice x s.dn y)) (w.heap.size + 1) _ (pc5 (s.re x y)).toArray _ _ u1
  replace q0 := hid q0
  replace q1 := hid q1
  replace hset := hid hset
  replace r0 := hid r0
  replace r1 := hid r1
  replace o3 := hid o3
  replace ho := hid ho
  replace u0 := hid u0
  replace u1 := hid u1
  replace v1 := hid v1
  replace K3 := hid K3
  replace hsz := hid hsz
  clear y7u
  go_wp2_with (first
    | (refine wpList_load_row rfl 38 (.tmp 1) rfl w.heap.size rfl 38 (pc5 (s.re x y)).toArray (0, 0) _ u0.out Try.underlying38 rfl (by kernel_rfl) ?_)
    | (refine wpList_store_row rfl 38 (.tmp 2) (.tmp 7) rfl (w.heap.size + 1) (pc5 (s.re x y)).toArray rfl rfl 38 _ u1.out (by kernel_rfl) rfl (pc5_all _) ?_))
  (try simp only [Exit.inBlock, Exit.then])
  refine bodyPost_ret (results_cell_row rfl _ _ (w.heap.size + 1) 38 (pc5 (s.re x y)).toArray (0, 0) _ rfl v1.out Try.underlying38 rfl (by kernel_rfl)) rfl ?_
  exact ⟨x, y, rfl, hy, o3.out, D3⟩

/-- A row of the call's own, of reservations whose accounts lie in rows of the call's own. -/
structure RO (w : World) (base : Nat) (v : Value) (M : List (Prt × List ByteArray)) : Prop where
  own : w.ownsRow base 38 5 v M.length ((M.map (·.1)).flatMap pc5)
  dep : ∀ p ∈ M, TOwn w base (.slice p.1.da p.1.dn p.1.dc) p.2
  off : ∀ p ∈ M, ∀ y, p.1.da = some y → v.ownBlock ≠ some y.block
  few : ∀ p ∈ M, p.2.length = p.1.dn ∧ p.1.dn ≤ 1000 ∧ ∃ z : Nat, p.1.nodes = (z : Int) ∧ z < 4294967296
theorem RO.nil (w : World) (base : Nat) : RO w base (.slice none 0 0) [] := ⟨World.ownsRow_nil _ _ _ _, (fun x h => by cases h), (fun x h => by cases h), (fun x h => by cases h)⟩
theorem RO.kp {S : Nat → Prop} {w w' : World} {base : Nat} {v : Value} {M : List (Prt × List ByteArray)} (h : RO w base v M) (hk : Kp S w w') (hs : ∀ b, S b → b < base) : RO w' base v M := by
  refine ⟨owns_kp h.own hk fun b hb hS => ?_, fun p hp => owns_kp (h.dep p hp) hk fun b hb hS => ?_, h.off, h.few⟩
  · have := (h.own.lt _ hb).1; have := hs b hS; omega
  · have := ((h.dep p hp).lt _ hb).1; have := hs b hS; omega
theorem RO.below {w w' : World} {base : Nat} {v : Value} {M : List (Prt × List ByteArray)} (h : RO w base v M) (hb : Below w.heap.size w w') : RO w' base v M := h.kp (S := fun _ => False) (Kp.of_below hb) (fun _ h => h.elim)
theorem RO.rl {w : World} {base n c : Nat} {a : Option Addr} {M : List (Prt × List ByteArray)} (h : RO w base (.slice a n c) M) (hn : M.length = n) (hl : n ≤ 4611686018427387904) : RL w a n M :=
  ⟨hn, owns_cat h.own, fun p hp => ⟨(h.few p hp).1, (h.dep p hp).tat, by have := (h.few p hp).2.1; omega⟩, fun p hp => (h.few p hp).2.2, hl⟩

theorem RO.more {w w1 : World} {base n : Nat} {v v' : Value} {M : List (Prt × List ByteArray)} {x : Prt} {D : List ByteArray} (h : RO w base v M) (hn : M.length = n) (hx : TOwn w base (.slice x.da x.dn x.dc) D) (hoff : ∀ y, x.da = some y → v.ownBlock ≠ some y.block)
    (hfew : D.length = x.dn ∧ x.dn ≤ 1000 ∧ ∃ z : Nat, x.nodes = (z : Int) ∧ z < 4294967296)
    (hg : w.grownBy w1 v.ownBlock) (ho : w1.ownsRow base 38 5 v' (n + 1) ((M.map (·.1)).flatMap pc5 ++ pc5 x)) (hv : v'.ownBlock = v.ownBlock ∨ v'.ownBlock = some w.heap.size) : RO w1 base v' (M ++ [(x, D)]) := by
  have kg := Kp.grown hg
  have all : ∀ z ∈ M ++ [(x, D)], TOwn w base (.slice z.1.da z.1.dn z.1.dc) z.2 ∧ (∀ y, z.1.da = some y → v.ownBlock ≠ some y.block) ∧ (z.2.length = z.1.dn ∧ z.1.dn ≤ 1000 ∧ ∃ q : Nat, z.1.nodes = (q : Int) ∧ q < 4294967296) := by
    intro z hz
    rcases List.mem_append.1 hz with h1 | h1
    · exact ⟨h.dep z h1, h.off z h1, h.few z h1⟩
    · rw [List.mem_singleton.1 h1]; exact ⟨hx, hoff, hfew⟩
  refine ⟨?_, fun z hz => ?_, fun z hz y hy => ?_, fun z hz => (all z hz).2.2⟩
  · rw [List.length_append, hn, List.map_append, List.flatMap_append]
    simpa using ho
  · obtain ⟨h1, h2, _⟩ := all z hz
    refine owns_kp h1 kg fun k hk hs => ?_
    cases ha : z.1.da with
    | none => rw [ha] at hk; simp [Value.ownBlock] at hk
    | some y =>
      rw [ha, ownBlock_some] at hk
      exact h2 y ha (by rw [hs, ← hk])
  · obtain ⟨h1, h2, _⟩ := all z hz
    rcases hv with e | e
    · rw [e]; exact h2 y hy
    · rw [e]
      intro he
      rw [hy] at h1
      have := (owns_blk h1).2
      simp only [Option.some.injEq] at he
      omega

/-- Those of the first j that are kept. -/
def selT (V : List Vw) (fl : Nat → Bool) : Nat → List Vw
  | 0 => []
  | j + 1 => if fl j = true then selT V fl j ++ [vAt V j] else selT V fl j
theorem sel_len (V : List Vw) (fl : Nat → Bool) : ∀ j, (selT V fl j).length ≤ j
  | 0 => Nat.le_refl _
  | j + 1 => by
    unfold selT
    have := sel_len V fl j
    split
    · rw [List.length_append]; simp; omega
    · omega
theorem sel_filter (V : List Vw) (f : Vw → Bool) : ∀ j, j ≤ V.length → selT V (fun i => f (vAt V i)) j = (V.take j).filter f
  | 0, _ => by simp [selT]
  | j + 1, h => by
    unfold selT
    rw [sel_filter V f j (by omega), take_more (by omega : j < V.length), List.filter_append, vAt_eq]
    cases hf : f (vAt V j) <;> simp [hf]
theorem vw_re (J : Prt) (D : List ByteArray) (x : Option Addr) (y : Nat) : vw (J.re x y, D) = vw (J, D) := rfl
theorem stayK {S : Nat → Prop} {w w' : World} {p : Addr} {v : Value} (hk : Kp S w w') (hn : ¬ S p.block) (h : w.cell? p = some v) : w'.cell? p = some v := by
  rw [World.cell?_of_block (hk.block p.block (World.block_lt_of_cell? w p h) hn)]; exact h

set_option maxRecDepth 100000 in
set_option maxHeartbeats 4000000 in
theorem kept36 (a : Option Addr) (k c g : Nat) (M : List (Prt × List ByteArray)) (S : Nat → Prop) (R : Nat → World → Prop) (fl : Nat → Bool) (w : World) (hkl : k ≤ 1000) (hd : ∀ p ∈ M, p.1.dn ≤ 1000)
    (hRL : ∀ w', Kp S w w' → RL w' a k M) (hS : ∀ b, S b → b < w.heap.size) (h0 : R 0 w) (hRB : ∀ j w' w'', R j w' → Below w.heap.size w' w'' → R j w'')
    (hcl : ∀ j, j < k → ∀ w', Kp S w w' → R j w' → Calls Try.prog 36 #[.agg (pc5 (mAt M j).1).toArray, ptr g] w' fun e w'' => e = .returned (.bool (fl j)) ∧ Kp S w' w'' ∧ R (j + 1) w'') :
    Calls Try.prog 23 #[.slice a k c, .func (.func 36) #[] #[ptr g]] w fun e w' => ∃ ra n rc M', e = .returned (.slice ra n rc) ∧ n ≤ rc ∧ M'.length = n ∧ RO w' w.heap.size (.slice ra n rc) M' ∧ M'.map vw = selT (M.map vw) fl k ∧ R k w' ∧ Kp S w w' := by
  obtain ⟨i0, hi, hz0, hz1, hz2⟩ := info_parts info38r
  have hR0 := hRL w (Kp.refl _ _)
  have hn : M.length = k := hR0.len
  have hmn : (M.map (·.1)).length = k := by rw [List.length_map]; exact hn
  replace hn := hid hn
  replace hmn := hid hmn
  replace hR0 := hid hR0
  replace hRL := hid hRL
  replace hRB := hid hRB
  replace hcl := hid hcl
  replace hd := hid hd
  replace hS := hid hS
  go_enter Try.func23, Try.ntmps23
  go_wp2_with fail
  go_loopw [5, 10] (fun v i wr => ∃ (j : Nat) (M' : List (Prt × List ByteArray)), j ≤ k ∧ i = .int .i64 (j : Int) ∧ Hid (RO wr w.heap.size v M' ∧ M'.map vw = selT (M.map vw) fl j) ∧ Hid (R j wr) ∧ Hid (Kp S w wr)) (fun _ i _ => k - (intOf i).toNat)
  case atStart => exact ⟨0, [], Nat.zero_le _, rfl, hid ⟨RO.nil _ _, rfl⟩, hid h0, hid (Kp.refl _ _)⟩
  case round =>
    obtain ⟨j, M', hj, rfl, hown, hst, hb⟩ := hrel
    obtain ⟨va, vc, e, hvc⟩ := owns_form hown.out.1.own
    obtain ⟨n, hlenM⟩ : ∃ n, M'.length = n := ⟨_, rfl⟩
    have hnj : n ≤ j := by
      have h1 : (M'.map vw).length = n := by rw [List.length_map]; exact hlenM
      rw [hown.out.2] at h1
      have := sel_len (M.map vw) fl j
      omega
    subst e
    rw [hlenM] at hvc hown ⊢
    replace hlenM := hid hlenM
    by_cases hlt : j < k
    · have hjL : j < (M.map (·.1)).length := by rw [hmn.out]; exact hlt
      have hjM : j < M.length := by rw [hn.out]; exact hlt
      have hRj := hRL.out wr hb.out
      obtain ⟨b, o, e⟩ := hRj.mat.place (by omega)
      subst e
      obtain ⟨y0, y1, y2, y3, y4⟩ := hRj.mat.one hjL
      obtain ⟨sz, hsz, hszb⟩ := hRj.set _ (mAt_mem hjM)
      obtain ⟨hD1, hD2, hD3⟩ := hRj.inn _ (mAt_mem hjM)
      have hdj := hd.out _ (mAt_mem hjM)
      have hvj := hid (vAt_vw hjM)
      rw [mAt_fst hjM] at y0 y1 y2 y3 y4
      obtain ⟨W1, hW1⟩ : ∃ W1, W1 = wr.alloc (.cells (pc5 (mAt M j).1).toArray 38) := ⟨_, rfl⟩
      have b1 : Below wr.heap.size wr W1 := by rw [hW1]; exact below_lit _ _
      have K1 : Kp S w W1 := hb.out.then b1
      have r0 : W1.heap[wr.heap.size]? = some (.cells (pc5 (mAt M j).1).toArray 38 (0, 0)) := by rw [hW1]; exact heap_alloc_new _ _
      have kC := hcl.out j hlt W1 K1 (hRB.out j wr W1 hst.out (b1.mono hb.out.size))
      have hselj : Hid (selT (M.map vw) fl (j + 1) = if fl j = true then selT (M.map vw) fl j ++ [vw (mAt M j)] else selT (M.map vw) fl j) := hid (by rw [← hvj.out]; rfl)
      replace hRj := hid hRj
      generalize hMJ : mAt M j = MJ at *
      replace hMJ := hid hMJ
      obtain ⟨⟨x, s, f, t, da, dn, dc⟩, D⟩ := MJ
      dsimp only at *
      subst hsz
      have hO1 := hid (hown.out.1.below b1)
      have hsw : w.heap.size ≤ wr.heap.size := hb.out.size
      simp only [pc5] at kC r0 hW1
      replace hD1 := hid hD1
      replace hD2 := hid hD2
      have b1h := hid b1
      clear b1
      go_wp2_with fail
      rw [← hW1]
      replace hW1 := hid hW1
      refine kC.mono ?_
      rintro e w1 ⟨rfl, hk1, hst1⟩
      have K2 : Kp S w w1 := K1.trans hk1
      have r1 : w1.heap[wr.heap.size]? = some (.cells #[.string x, .int .u32 (sz : Int), .int .i64 f, .int .i64 t, .slice da dn dc] 38 (0, 0)) := by
        rw [hk1.block _ (Array.getElem?_eq_some_iff.1 r0).1 (fun h => by have := hS.out _ h; omega)]; exact r0
      have hO2 := hid (hO1.out.kp hk1 hS.out)
      have z0 := row_cell r1 0 (.string x) rfl
      have z1 := row_cell r1 1 (.int .u32 (sz : Int)) rfl
      have z2 := row_cell r1 2 (.int .i64 f) rfl
      have z3 := row_cell r1 3 (.int .i64 t) rfl
      have z4 := row_cell r1 4 (.slice da dn dc) rfl
      have hlt1 := World.block_lt_of_cell? w1 _ z0
      replace r0 := hid r0
      replace r1 := hid r1
      replace K2 := hid K2
      replace hk1 := hid hk1
      replace hst1 := hid hst1
      cases hflj : fl j with
      | false =>
        rw [hflj, if_neg (by decide)] at hselj
        replace hflj := hid hflj
        go_wp2_with fail
        go_roundw
        case rel => exact ⟨j + 1, M', by omega, by go_num, hid ⟨hO2.out, by rw [hselj.out]; exact hown.out.2⟩, hst1, K2⟩
        case measure => simp [intOf]; omega
      | true =>
        rw [hflj, if_pos rfl] at hselj
        replace hflj := hid hflj
        have hRw1 := hRL.out w1 K2.out
        have hD2' : TAt w1 da D := by
          have h9 := (hRw1.inn _ (mAt_mem hjM)).2.1
          rw [hMJ.out] at h9
          exact h9
        have kA := apart_any ⟨x, (sz : Int), f, t, da, dn, dc⟩ D w1 hD1.out (by dsimp only; omega) hD2'
        replace hD2' := hid hD2'
        replace hRw1 := hid hRw1
        simp only [pc5] at kA
        go_wp2_with fail
        refine kA.mono ?_
        rintro e w2 ⟨xa, ya, rfl, hya, hoT, hb2⟩
        obtain ⟨J, hJ⟩ : ∃ J : Prt, J = Prt.re ⟨x, (sz : Int), f, t, da, dn, dc⟩ xa ya := ⟨_, rfl⟩
        have hJdn : Hid (J.dn = dn ∧ J.da = xa ∧ J.dc = ya ∧ J.nodes = (sz : Int)) := hid (by rw [hJ]; exact ⟨rfl, rfl, rfl, rfl⟩)
        have hJpc : pc5 (Prt.re ⟨x, (sz : Int), f, t, da, dn, dc⟩ xa ya) = pc5 J := by rw [hJ]
        have hJvw : Hid (vw (J, D) = vw (⟨x, (sz : Int), f, t, da, dn, dc⟩, D)) := hid (by rw [hJ]; exact vw_re _ _ _ _)
        simp only [pc5] at hJpc
        rw [hJpc]
        replace hJ := hid hJ
        replace hJpc := hid hJpc
        have bl := below_lit w2 (.cells (pc5 J).toArray 38)
        have hO3 := hid ((hO2.out.below hb2).below bl)
        have hT3 : TOwn (w2.alloc (.cells (pc5 J).toArray 38)) w.heap.size (.slice J.da J.dn J.dc) D := by
          rw [hJdn.out.1, hJdn.out.2.1, hJdn.out.2.2.1]
          exact owns_low (hoT.below bl) (by have := K2.out.size; omega)
        have hoff : ∀ z, J.da = some z → (Value.slice va n vc).ownBlock ≠ some z.block := fun z hz he => by
          rw [hJdn.out.2.1] at hz
          subst hz
          have h1 := owns_lt hO2.out.own he
          have h2 := (owns_blk hoT).1
          omega
        have hfew : D.length = J.dn ∧ J.dn ≤ 1000 ∧ ∃ z : Nat, J.nodes = (z : Int) ∧ z < 4294967296 := by
          rw [hJdn.out.1, hJdn.out.2.2.2]
          exact ⟨hD1.out, hdj, sz, rfl, hszb⟩
        have hcat := hid (cat_lit w2 38 (pc5 J) (pc5 J).toArray rfl)
        have hone := hid (pc5_one J)
        have hown2' : (w2.alloc (.cells (pc5 J).toArray 38)).ownsRow w.heap.size 38 5 (.slice va n vc) n ((M'.map (·.1)).flatMap pc5) := by
          have := hO3.out.own
          rw [hlenM.out] at this
          exact this
        have B2 : w.heap.size ≤ (w2.alloc (.cells (pc5 J).toArray 38)).heap.size := by
          have h1 := K2.out.size; have h2 := hb2.size; have h3 := bl.size; omega
        have hbd : (n + 1) * 64 ≤ 140737488355328 := by omega
        have K3 : Kp S w (w2.alloc (.cells (pc5 J).toArray 38)) := (K2.out.then hb2).then bl
        have hR3 : R (j + 1) (w2.alloc (.cells (pc5 J).toArray 38)) := hRB.out _ _ _ (hRB.out _ _ _ hst1.out (hb2.mono K2.out.size)) (bl.mono (Nat.le_trans K2.out.size hb2.size))
        replace hown2' := hid hown2'
        replace hT3 := hid hT3
        replace hoff := hid hoff
        replace hfew := hid hfew
        replace hoT := hid hoT
        replace K3 := hid K3
        replace hR3 := hid hR3
        replace hb2 := hid hb2
        clear z0 z1 z2 z3 z4 y0 y1 y2 y3 y4 bl
        go_wp2_with (first | (refine wpList_one rfl 29 38 (.tmp 19) rfl (pc5 J).toArray 5 i0 _ Try.underlying29 hi hz0 hz1 (by omega) (by omega) rfl rfl ?_) | (at_builtin; refine Hid.out ?_))
        refine wpList_cat _ rfl (.tmp 17) (.tmp 20) 29 rfl w.heap.size 38 i0 _ 5 64 Try.underlying29 hi hz0 hz1 hz2 rfl (by omega) _ _ _ rfl hown2'.out (some ⟨w2.heap.size, 0, none⟩) 1 1 (pc5 J) rfl rfl hcat.out hone.out (by unfold maxLen; omega) hbd B2 ?_
        intro v' w4 ho4 hg4 hv4
        have hJ4 := hid (RO.more hO3.out hlenM.out (x := J) (D := D) hT3.out hoff.out hfew.out hg4 ho4 hv4)
        have K4 : Kp S w w4 := K3.out.next (Kp.grown hg4) (fun i hi' h => by have := (hown2'.out.lt _ h).1; omega)
        have hR4 : R (j + 1) w4 := hRB.out _ _ _ hR3.out ((Kp.grown hg4).below (fun b h => (hown2'.out.lt _ h).1) B2)
        replace K4 := hid K4
        replace hR4 := hid hR4
        clear ho4 hg4 hv4 hcat
        go_wp2_with fail
        go_roundw
        case rel => exact ⟨j + 1, M' ++ [(J, D)], by omega, by go_num, hid ⟨hJ4.out, by rw [List.map_append, hown.out.2, hselj.out]; simp [hJvw.out]⟩, hR4, K4⟩
        case measure => simp [intOf]; omega
    · have hje : j = k := by omega
      subst hje
      go_wp2
      go_ret
      exact ⟨va, n, vc, M', rfl, hvc, hlenM.out, hown.out.1, hown.out.2, hst.out, hb.out⟩

set_option maxRecDepth 100000 in
set_option maxHeartbeats 4000000 in
theorem kept37 (a : Option Addr) (k c g : Nat) (M : List (Prt × List ByteArray)) (S : Nat → Prop) (R : Nat → World → Prop) (fl : Nat → Bool) (w : World) (hkl : k ≤ 1000) (hd : ∀ p ∈ M, p.1.dn ≤ 1000)
    (hRL : ∀ w', Kp S w w' → RL w' a k M) (hS : ∀ b, S b → b < w.heap.size) (h0 : R 0 w) (hRB : ∀ j w' w'', R j w' → Below w.heap.size w' w'' → R j w'')
    (hcl : ∀ j, j < k → ∀ w', Kp S w w' → R j w' → Calls Try.prog 37 #[.agg (pc5 (mAt M j).1).toArray, ptr g] w' fun e w'' => e = .returned (.bool (fl j)) ∧ Kp S w' w'' ∧ R (j + 1) w'') :
    Calls Try.prog 23 #[.slice a k c, .func (.func 37) #[] #[ptr g]] w fun e w' => ∃ ra n rc M', e = .returned (.slice ra n rc) ∧ n ≤ rc ∧ M'.length = n ∧ RO w' w.heap.size (.slice ra n rc) M' ∧ M'.map vw = selT (M.map vw) fl k ∧ R k w' ∧ Kp S w w' := by
  obtain ⟨i0, hi, hz0, hz1, hz2⟩ := info_parts info38r
  have hR0 := hRL w (Kp.refl _ _)
  have hn : M.length = k := hR0.len
  have hmn : (M.map (·.1)).length = k := by rw [List.length_map]; exact hn
  replace hn := hid hn
  replace hmn := hid hmn
  replace hR0 := hid hR0
  replace hRL := hid hRL
  replace hRB := hid hRB
  replace hcl := hid hcl
  replace hd := hid hd
  replace hS := hid hS
  go_enter Try.func23, Try.ntmps23
  go_wp2_with fail
  go_loopw [5, 10] (fun v i wr => ∃ (j : Nat) (M' : List (Prt × List ByteArray)), j ≤ k ∧ i = .int .i64 (j : Int) ∧ Hid (RO wr w.heap.size v M' ∧ M'.map vw = selT (M.map vw) fl j) ∧ Hid (R j wr) ∧ Hid (Kp S w wr)) (fun _ i _ => k - (intOf i).toNat)
  case atStart => exact ⟨0, [], Nat.zero_le _, rfl, hid ⟨RO.nil _ _, rfl⟩, hid h0, hid (Kp.refl _ _)⟩
  case round =>
    obtain ⟨j, M', hj, rfl, hown, hst, hb⟩ := hrel
    obtain ⟨va, vc, e, hvc⟩ := owns_form hown.out.1.own
    obtain ⟨n, hlenM⟩ : ∃ n, M'.length = n := ⟨_, rfl⟩
    have hnj : n ≤ j := by
      have h1 : (M'.map vw).length = n := by rw [List.length_map]; exact hlenM
      rw [hown.out.2] at h1
      have := sel_len (M.map vw) fl j
      omega
    subst e
    rw [hlenM] at hvc hown ⊢
    replace hlenM := hid hlenM
    by_cases hlt : j < k
    · have hjL : j < (M.map (·.1)).length := by rw [hmn.out]; exact hlt
      have hjM : j < M.length := by rw [hn.out]; exact hlt
      have hRj := hRL.out wr hb.out
      obtain ⟨b, o, e⟩ := hRj.mat.place (by omega)
      subst e
      obtain ⟨y0, y1, y2, y3, y4⟩ := hRj.mat.one hjL
      obtain ⟨sz, hsz, hszb⟩ := hRj.set _ (mAt_mem hjM)
      obtain ⟨hD1, hD2, hD3⟩ := hRj.inn _ (mAt_mem hjM)
      have hdj := hd.out _ (mAt_mem hjM)
      have hvj := hid (vAt_vw hjM)
      rw [mAt_fst hjM] at y0 y1 y2 y3 y4
      obtain ⟨W1, hW1⟩ : ∃ W1, W1 = wr.alloc (.cells (pc5 (mAt M j).1).toArray 38) := ⟨_, rfl⟩
      have b1 : Below wr.heap.size wr W1 := by rw [hW1]; exact below_lit _ _
      have K1 : Kp S w W1 := hb.out.then b1
      have r0 : W1.heap[wr.heap.size]? = some (.cells (pc5 (mAt M j).1).toArray 38 (0, 0)) := by rw [hW1]; exact heap_alloc_new _ _
      have kC := hcl.out j hlt W1 K1 (hRB.out j wr W1 hst.out (b1.mono hb.out.size))
      have hselj : Hid (selT (M.map vw) fl (j + 1) = if fl j = true then selT (M.map vw) fl j ++ [vw (mAt M j)] else selT (M.map vw) fl j) := hid (by rw [← hvj.out]; rfl)
      replace hRj := hid hRj
      generalize hMJ : mAt M j = MJ at *
      replace hMJ := hid hMJ
      obtain ⟨⟨x, s, f, t, da, dn, dc⟩, D⟩ := MJ
      dsimp only at *
      subst hsz
      have hO1 := hid (hown.out.1.below b1)
      have hsw : w.heap.size ≤ wr.heap.size := hb.out.size
      simp only [pc5] at kC r0 hW1
      replace hD1 := hid hD1
      replace hD2 := hid hD2
      have b1h := hid b1
      clear b1
      go_wp2_with fail
      rw [← hW1]
      replace hW1 := hid hW1
      refine kC.mono ?_
      rintro e w1 ⟨rfl, hk1, hst1⟩
      have K2 : Kp S w w1 := K1.trans hk1
      have r1 : w1.heap[wr.heap.size]? = some (.cells #[.string x, .int .u32 (sz : Int), .int .i64 f, .int .i64 t, .slice da dn dc] 38 (0, 0)) := by
        rw [hk1.block _ (Array.getElem?_eq_some_iff.1 r0).1 (fun h => by have := hS.out _ h; omega)]; exact r0
      have hO2 := hid (hO1.out.kp hk1 hS.out)
      have z0 := row_cell r1 0 (.string x) rfl
      have z1 := row_cell r1 1 (.int .u32 (sz : Int)) rfl
      have z2 := row_cell r1 2 (.int .i64 f) rfl
      have z3 := row_cell r1 3 (.int .i64 t) rfl
      have z4 := row_cell r1 4 (.slice da dn dc) rfl
      have hlt1 := World.block_lt_of_cell? w1 _ z0
      replace r0 := hid r0
      replace r1 := hid r1
      replace K2 := hid K2
      replace hk1 := hid hk1
      replace hst1 := hid hst1
      cases hflj : fl j with
      | false =>
        rw [hflj, if_neg (by decide)] at hselj
        replace hflj := hid hflj
        go_wp2_with fail
        go_roundw
        case rel => exact ⟨j + 1, M', by omega, by go_num, hid ⟨hO2.out, by rw [hselj.out]; exact hown.out.2⟩, hst1, K2⟩
        case measure => simp [intOf]; omega
      | true =>
        rw [hflj, if_pos rfl] at hselj
        replace hflj := hid hflj
        have hRw1 := hRL.out w1 K2.out
        have hD2' : TAt w1 da D := by
          have h9 := (hRw1.inn _ (mAt_mem hjM)).2.1
          rw [hMJ.out] at h9
          exact h9
        have kA := apart_any ⟨x, (sz : Int), f, t, da, dn, dc⟩ D w1 hD1.out (by dsimp only; omega) hD2'
        replace hD2' := hid hD2'
        replace hRw1 := hid hRw1
        simp only [pc5] at kA
        go_wp2_with fail
        refine kA.mono ?_
        rintro e w2 ⟨xa, ya, rfl, hya, hoT, hb2⟩
        obtain ⟨J, hJ⟩ : ∃ J : Prt, J = Prt.re ⟨x, (sz : Int), f, t, da, dn, dc⟩ xa ya := ⟨_, rfl⟩
        have hJdn : Hid (J.dn = dn ∧ J.da = xa ∧ J.dc = ya ∧ J.nodes = (sz : Int)) := hid (by rw [hJ]; exact ⟨rfl, rfl, rfl, rfl⟩)
        have hJpc : pc5 (Prt.re ⟨x, (sz : Int), f, t, da, dn, dc⟩ xa ya) = pc5 J := by rw [hJ]
        have hJvw : Hid (vw (J, D) = vw (⟨x, (sz : Int), f, t, da, dn, dc⟩, D)) := hid (by rw [hJ]; exact vw_re _ _ _ _)
        simp only [pc5] at hJpc
        rw [hJpc]
        replace hJ := hid hJ
        replace hJpc := hid hJpc
        have bl := below_lit w2 (.cells (pc5 J).toArray 38)
        have hO3 := hid ((hO2.out.below hb2).below bl)
        have hT3 : TOwn (w2.alloc (.cells (pc5 J).toArray 38)) w.heap.size (.slice J.da J.dn J.dc) D := by
          rw [hJdn.out.1, hJdn.out.2.1, hJdn.out.2.2.1]
          exact owns_low (hoT.below bl) (by have := K2.out.size; omega)
        have hoff : ∀ z, J.da = some z → (Value.slice va n vc).ownBlock ≠ some z.block := fun z hz he => by
          rw [hJdn.out.2.1] at hz
          subst hz
          have h1 := owns_lt hO2.out.own he
          have h2 := (owns_blk hoT).1
          omega
        have hfew : D.length = J.dn ∧ J.dn ≤ 1000 ∧ ∃ z : Nat, J.nodes = (z : Int) ∧ z < 4294967296 := by
          rw [hJdn.out.1, hJdn.out.2.2.2]
          exact ⟨hD1.out, hdj, sz, rfl, hszb⟩
        have hcat := hid (cat_lit w2 38 (pc5 J) (pc5 J).toArray rfl)
        have hone := hid (pc5_one J)
        have hown2' : (w2.alloc (.cells (pc5 J).toArray 38)).ownsRow w.heap.size 38 5 (.slice va n vc) n ((M'.map (·.1)).flatMap pc5) := by
          have := hO3.out.own
          rw [hlenM.out] at this
          exact this
        have B2 : w.heap.size ≤ (w2.alloc (.cells (pc5 J).toArray 38)).heap.size := by
          have h1 := K2.out.size; have h2 := hb2.size; have h3 := bl.size; omega
        have hbd : (n + 1) * 64 ≤ 140737488355328 := by omega
        have K3 : Kp S w (w2.alloc (.cells (pc5 J).toArray 38)) := (K2.out.then hb2).then bl
        have hR3 : R (j + 1) (w2.alloc (.cells (pc5 J).toArray 38)) := hRB.out _ _ _ (hRB.out _ _ _ hst1.out (hb2.mono K2.out.size)) (bl.mono (Nat.le_trans K2.out.size hb2.size))
        replace hown2' := hid hown2'
        replace hT3 := hid hT3
        replace hoff := hid hoff
        replace hfew := hid hfew
        replace hoT := hid hoT
        replace K3 := hid K3
        replace hR3 := hid hR3
        replace hb2 := hid hb2
        clear z0 z1 z2 z3 z4 y0 y1 y2 y3 y4 bl
        go_wp2_with (first | (refine wpList_one rfl 29 38 (.tmp 19) rfl (pc5 J).toArray 5 i0 _ Try.underlying29 hi hz0 hz1 (by omega) (by omega) rfl rfl ?_) | (at_builtin; refine Hid.out ?_))
        refine wpList_cat _ rfl (.tmp 17) (.tmp 20) 29 rfl w.heap.size 38 i0 _ 5 64 Try.underlying29 hi hz0 hz1 hz2 rfl (by omega) _ _ _ rfl hown2'.out (some ⟨w2.heap.size, 0, none⟩) 1 1 (pc5 J) rfl rfl hcat.out hone.out (by unfold maxLen; omega) hbd B2 ?_
        intro v' w4 ho4 hg4 hv4
        have hJ4 := hid (RO.more hO3.out hlenM.out (x := J) (D := D) hT3.out hoff.out hfew.out hg4 ho4 hv4)
        have K4 : Kp S w w4 := K3.out.next (Kp.grown hg4) (fun i hi' h => by have := (hown2'.out.lt _ h).1; omega)
        have hR4 : R (j + 1) w4 := hRB.out _ _ _ hR3.out ((Kp.grown hg4).below (fun b h => (hown2'.out.lt _ h).1) B2)
        replace K4 := hid K4
        replace hR4 := hid hR4
        clear ho4 hg4 hv4 hcat
        go_wp2_with fail
        go_roundw
        case rel => exact ⟨j + 1, M' ++ [(J, D)], by omega, by go_num, hid ⟨hJ4.out, by rw [List.map_append, hown.out.2, hselj.out]; simp [hJvw.out]⟩, hR4, K4⟩
        case measure => simp [intOf]; omega
    · have hje : j = k := by omega
      subst hje
      go_wp2
      go_ret
      exact ⟨va, n, vc, M', rfl, hvc, hlenM.out, hown.out.1, hown.out.2, hst.out, hb.out⟩

set_option maxRecDepth 100000 in
set_option maxHeartbeats 4000000 in
theorem kept25 (a : Option Addr) (k c g : Nat) (M : List (Prt × List ByteArray)) (S : Nat → Prop) (R : Nat → World → Prop) (fl : Nat → Bool) (w : World) (hkl : k ≤ 1000) (hd : ∀ p ∈ M, p.1.dn ≤ 1000)
    (hRL : ∀ w', Kp S w w' → RL w' a k M) (hS : ∀ b, S b → b < w.heap.size) (h0 : R 0 w) (hRB : ∀ j w' w'', R j w' → Below w.heap.size w' w'' → R j w'')
    (hcl : ∀ j, j < k → ∀ w', Kp S w w' → R j w' → Calls Try.prog 25 #[.agg (pc5 (mAt M j).1).toArray, ptr g] w' fun e w'' => e = .returned (.bool (fl j)) ∧ Kp S w' w'' ∧ R (j + 1) w'') :
    Calls Try.prog 23 #[.slice a k c, .func (.func 25) #[] #[ptr g]] w fun e w' => ∃ ra n rc M', e = .returned (.slice ra n rc) ∧ n ≤ rc ∧ M'.length = n ∧ RO w' w.heap.size (.slice ra n rc) M' ∧ M'.map vw = selT (M.map vw) fl k ∧ R k w' ∧ Kp S w w' := by
  obtain ⟨i0, hi, hz0, hz1, hz2⟩ := info_parts info38r
  have hR0 := hRL w (Kp.refl _ _)
  have hn : M.length = k := hR0.len
  have hmn : (M.map (·.1)).length = k := by rw [List.length_map]; exact hn
  replace hn := hid hn
  replace hmn := hid hmn
  replace hR0 := hid hR0
  replace hRL := hid hRL
  replace hRB := hid hRB
  replace hcl := hid hcl
  replace hd := hid hd
  replace hS := hid hS
  go_enter Try.func23, Try.ntmps23
  go_wp2_with fail
  go_loopw [5, 10] (fun v i wr => ∃ (j : Nat) (M' : List (Prt × List ByteArray)), j ≤ k ∧ i = .int .i64 (j : Int) ∧ Hid (RO wr w.heap.size v M' ∧ M'.map vw = selT (M.map vw) fl j) ∧ Hid (R j wr) ∧ Hid (Kp S w wr)) (fun _ i _ => k - (intOf i).toNat)
  case atStart => exact ⟨0, [], Nat.zero_le _, rfl, hid ⟨RO.nil _ _, rfl⟩, hid h0, hid (Kp.refl _ _)⟩
  case round =>
    obtain ⟨j, M', hj, rfl, hown, hst, hb⟩ := hrel
    obtain ⟨va, vc, e, hvc⟩ := owns_form hown.out.1.own
    obtain ⟨n, hlenM⟩ : ∃ n, M'.length = n := ⟨_, rfl⟩
    have hnj : n ≤ j := by
      have h1 : (M'.map vw).length = n := by rw [List.length_map]; exact hlenM
      rw [hown.out.2] at h1
      have := sel_len (M.map vw) fl j
      omega
    subst e
    rw [hlenM] at hvc hown ⊢
    replace hlenM := hid hlenM
    by_cases hlt : j < k
    · have hjL : j < (M.map (·.1)).length := by rw [hmn.out]; exact hlt
      have hjM : j < M.length := by rw [hn.out]; exact hlt
      have hRj := hRL.out wr hb.out
      obtain ⟨b, o, e⟩ := hRj.mat.place (by omega)
      subst e
      obtain ⟨y0, y1, y2, y3, y4⟩ := hRj.mat.one hjL
      obtain ⟨sz, hsz, hszb⟩ := hRj.set _ (mAt_mem hjM)
      obtain ⟨hD1, hD2, hD3⟩ := hRj.inn _ (mAt_mem hjM)
      have hdj := hd.out _ (mAt_mem hjM)
      have hvj := hid (vAt_vw hjM)
      rw [mAt_fst hjM] at y0 y1 y2 y3 y4
      obtain ⟨W1, hW1⟩ : ∃ W1, W1 = wr.alloc (.cells (pc5 (mAt M j).1).toArray 38) := ⟨_, rfl⟩
      have b1 : Below wr.heap.size wr W1 := by rw [hW1]; exact below_lit _ _
      have K1 : Kp S w W1 := hb.out.then b1
      have r0 : W1.heap[wr.heap.size]? = some (.cells (pc5 (mAt M j).1).toArray 38 (0, 0)) := by rw [hW1]; exact heap_alloc_new _ _
      have kC := hcl.out j hlt W1 K1 (hRB.out j wr W1 hst.out (b1.mono hb.out.size))
      have hselj : Hid (selT (M.map vw) fl (j + 1) = if fl j = true then selT (M.map vw) fl j ++ [vw (mAt M j)] else selT (M.map vw) fl j) := hid (by rw [← hvj.out]; rfl)
      replace hRj := hid hRj
      generalize hMJ : mAt M j = MJ at *
      replace hMJ := hid hMJ
      obtain ⟨⟨x, s, f, t, da, dn, dc⟩, D⟩ := MJ
      dsimp only at *
      subst hsz
      have hO1 := hid (hown.out.1.below b1)
      have hsw : w.heap.size ≤ wr.heap.size := hb.out.size
      simp only [pc5] at kC r0 hW1
      replace hD1 := hid hD1
      replace hD2 := hid hD2
      have b1h := hid b1
      clear b1
      go_wp2_with fail
      rw [← hW1]
      replace hW1 := hid hW1
      refine kC.mono ?_
      rintro e w1 ⟨rfl, hk1, hst1⟩
      have K2 : Kp S w w1 := K1.trans hk1
      have r1 : w1.heap[wr.heap.size]? = some (.cells #[.string x, .int .u32 (sz : Int), .int .i64 f, .int .i64 t, .slice da dn dc] 38 (0, 0)) := by
        rw [hk1.block _ (Array.getElem?_eq_some_iff.1 r0).1 (fun h => by have := hS.out _ h; omega)]; exact r0
      have hO2 := hid (hO1.out.kp hk1 hS.out)
      have z0 := row_cell r1 0 (.string x) rfl
      have z1 := row_cell r1 1 (.int .u32 (sz : Int)) rfl
      have z2 := row_cell r1 2 (.int .i64 f) rfl
      have z3 := row_cell r1 3 (.int .i64 t) rfl
      have z4 := row_cell r1 4 (.slice da dn dc) rfl
      have hlt1 := World.block_lt_of_cell? w1 _ z0
      replace r0 := hid r0
      replace r1 := hid r1
      replace K2 := hid K2
      replace hk1 := hid hk1
      replace hst1 := hid hst1
      cases hflj : fl j with
      | false =>
        rw [hflj, if_neg (by decide)] at hselj
        replace hflj := hid hflj
        go_wp2_with fail
        go_roundw
        case rel => exact ⟨j + 1, M', by omega, by go_num, hid ⟨hO2.out, by rw [hselj.out]; exact hown.out.2⟩, hst1, K2⟩
        case measure => simp [intOf]; omega
      | true =>
        rw [hflj, if_pos rfl] at hselj
        replace hflj := hid hflj
        have hRw1 := hRL.out w1 K2.out
        have hD2' : TAt w1 da D := by
          have h9 := (hRw1.inn _ (mAt_mem hjM)).2.1
          rw [hMJ.out] at h9
          exact h9
        have kA := apart_any ⟨x, (sz : Int), f, t, da, dn, dc⟩ D w1 hD1.out (by dsimp only; omega) hD2'
        replace hD2' := hid hD2'
        replace hRw1 := hid hRw1
        simp only [pc5] at kA
        go_wp2_with fail
        refine kA.mono ?_
        rintro e w2 ⟨xa, ya, rfl, hya, hoT, hb2⟩
        obtain ⟨J, hJ⟩ : ∃ J : Prt, J = Prt.re ⟨x, (sz : Int), f, t, da, dn, dc⟩ xa ya := ⟨_, rfl⟩
        have hJdn : Hid (J.dn = dn ∧ J.da = xa ∧ J.dc = ya ∧ J.nodes = (sz : Int)) := hid (by rw [hJ]; exact ⟨rfl, rfl, rfl, rfl⟩)
        have hJpc : pc5 (Prt.re ⟨x, (sz : Int), f, t, da, dn, dc⟩ xa ya) = pc5 J := by rw [hJ]
        have hJvw : Hid (vw (J, D) = vw (⟨x, (sz : Int), f, t, da, dn, dc⟩, D)) := hid (by rw [hJ]; exact vw_re _ _ _ _)
        simp only [pc5] at hJpc
        rw [hJpc]
        replace hJ := hid hJ
        replace hJpc := hid hJpc
        have bl := below_lit w2 (.cells (pc5 J).toArray 38)
        have hO3 := hid ((hO2.out.below hb2).below bl)
        have hT3 : TOwn (w2.alloc (.cells (pc5 J).toArray 38)) w.heap.size (.slice J.da J.dn J.dc) D := by
          rw [hJdn.out.1, hJdn.out.2.1, hJdn.out.2.2.1]
          exact owns_low (hoT.below bl) (by have := K2.out.size; omega)
        have hoff : ∀ z, J.da = some z → (Value.slice va n vc).ownBlock ≠ some z.block := fun z hz he => by
          rw [hJdn.out.2.1] at hz
          subst hz
          have h1 := owns_lt hO2.out.own he
          have h2 := (owns_blk hoT).1
          omega
        have hfew : D.length = J.dn ∧ J.dn ≤ 1000 ∧ ∃ z : Nat, J.nodes = (z : Int) ∧ z < 4294967296 := by
          rw [hJdn.out.1, hJdn.out.2.2.2]
          exact ⟨hD1.out, hdj, sz, rfl, hszb⟩
        have hcat := hid (cat_lit w2 38 (pc5 J) (pc5 J).toArray rfl)
        have hone := hid (pc5_one J)
        have hown2' : (w2.alloc (.cells (pc5 J).toArray 38)).ownsRow w.heap.size 38 5 (.slice va n vc) n ((M'.map (·.1)).flatMap pc5) := by
          have := hO3.out.own
          rw [hlenM.out] at this
          exact this
        have B2 : w.heap.size ≤ (w2.alloc (.cells (pc5 J).toArray 38)).heap.size := by
          have h1 := K2.out.size; have h2 := hb2.size; have h3 := bl.size; omega
        have hbd : (n + 1) * 64 ≤ 140737488355328 := by omega
        have K3 : Kp S w (w2.alloc (.cells (pc5 J).toArray 38)) := (K2.out.then hb2).then bl
        have hR3 : R (j + 1) (w2.alloc (.cells (pc5 J).toArray 38)) := hRB.out _ _ _ (hRB.out _ _ _ hst1.out (hb2.mono K2.out.size)) (bl.mono (Nat.le_trans K2.out.size hb2.size))
        replace hown2' := hid hown2'
        replace hT3 := hid hT3
        replace hoff := hid hoff
        replace hfew := hid hfew
        replace hoT := hid hoT
        replace K3 := hid K3
        replace hR3 := hid hR3
        replace hb2 := hid hb2
        clear z0 z1 z2 z3 z4 y0 y1 y2 y3 y4 bl
        go_wp2_with (first | (refine wpList_one rfl 29 38 (.tmp 19) rfl (pc5 J).toArray 5 i0 _ Try.underlying29 hi hz0 hz1 (by omega) (by omega) rfl rfl ?_) | (at_builtin; refine Hid.out ?_))
        refine wpList_cat _ rfl (.tmp 17) (.tmp 20) 29 rfl w.heap.size 38 i0 _ 5 64 Try.underlying29 hi hz0 hz1 hz2 rfl (by omega) _ _ _ rfl hown2'.out (some ⟨w2.heap.size, 0, none⟩) 1 1 (pc5 J) rfl rfl hcat.out hone.out (by unfold maxLen; omega) hbd B2 ?_
        intro v' w4 ho4 hg4 hv4
        have hJ4 := hid (RO.more hO3.out hlenM.out (x := J) (D := D) hT3.out hoff.out hfew.out hg4 ho4 hv4)
        have K4 : Kp S w w4 := K3.out.next (Kp.grown hg4) (fun i hi' h => by have := (hown2'.out.lt _ h).1; omega)
        have hR4 : R (j + 1) w4 := hRB.out _ _ _ hR3.out ((Kp.grown hg4).below (fun b h => (hown2'.out.lt _ h).1) B2)
        replace K4 := hid K4
        replace hR4 := hid hR4
        clear ho4 hg4 hv4 hcat
        go_wp2_with fail
        go_roundw
        case rel => exact ⟨j + 1, M' ++ [(J, D)], by omega, by go_num, hid ⟨hJ4.out, by rw [List.map_append, hown.out.2, hselj.out]; simp [hJvw.out]⟩, hR4, K4⟩
        case measure => simp [intOf]; omega
    · have hje : j = k := by omega
      subst hje
      go_wp2
      go_ret
      exact ⟨va, n, vc, M', rfl, hvc, hlenM.out, hown.out.1, hown.out.2, hst.out, hb.out⟩

set_option maxRecDepth 100000 in
set_option maxHeartbeats 4000000 in
theorem kept24 (a : Option Addr) (k c g g2 : Nat) (M : List (Prt × List ByteArray)) (S : Nat → Prop) (R : Nat → World → Prop) (fl : Nat → Bool) (w : World) (hkl : k ≤ 1000) (hd : ∀ p ∈ M, p.1.dn ≤ 1000)
    (hRL : ∀ w', Kp S w w' → RL w' a k M) (hS : ∀ b, S b → b < w.heap.size) (h0 : R 0 w) (hRB : ∀ j w' w'', R j w' → Below w.heap.size w' w'' → R j w'')
    (hcl : ∀ j, j < k → ∀ w', Kp S w w' → R j w' → Calls Try.prog 24 #[.agg (pc5 (mAt M j).1).toArray, ptr g, ptr g2] w' fun e w'' => e = .returned (.bool (fl j)) ∧ Kp S w' w'' ∧ R (j + 1) w'') :
    Calls Try.prog 23 #[.slice a k c, .func (.func 24) #[] #[ptr g, ptr g2]] w fun e w' => ∃ ra n rc M', e = .returned (.slice ra n rc) ∧ n ≤ rc ∧ M'.length = n ∧ RO w' w.heap.size (.slice ra n rc) M' ∧ M'.map vw = selT (M.map vw) fl k ∧ R k w' ∧ Kp S w w' := by
  obtain ⟨i0, hi, hz0, hz1, hz2⟩ := info_parts info38r
  have hR0 := hRL w (Kp.refl _ _)
  have hn : M.length = k := hR0.len
  have hmn : (M.map (·.1)).length = k := by rw [List.length_map]; exact hn
  replace hn := hid hn
  replace hmn := hid hmn
  replace hR0 := hid hR0
  replace hRL := hid hRL
  replace hRB := hid hRB
  replace hcl := hid hcl
  replace hd := hid hd
  replace hS := hid hS
  go_enter Try.func23, Try.ntmps23
  go_wp2_with fail
  go_loopw [5, 10] (fun v i wr => ∃ (j : Nat) (M' : List (Prt × List ByteArray)), j ≤ k ∧ i = .int .i64 (j : Int) ∧ Hid (RO wr w.heap.size v M' ∧ M'.map vw = selT (M.map vw) fl j) ∧ Hid (R j wr) ∧ Hid (Kp S w wr)) (fun _ i _ => k - (intOf i).toNat)
  case atStart => exact ⟨0, [], Nat.zero_le _, rfl, hid ⟨RO.nil _ _, rfl⟩, hid h0, hid (Kp.refl _ _)⟩
  case round =>
    obtain ⟨j, M', hj, rfl, hown, hst, hb⟩ := hrel
    obtain ⟨va, vc, e, hvc⟩ := owns_form hown.out.1.own
    obtain ⟨n, hlenM⟩ : ∃ n, M'.length = n := ⟨_, rfl⟩
    have hnj : n ≤ j := by
      have h1 : (M'.map vw).length = n := by rw [List.length_map]; exact hlenM
      rw [hown.out.2] at h1
      have := sel_len (M.map vw) fl j
      omega
    subst e
    rw [hlenM] at hvc hown ⊢
    replace hlenM := hid hlenM
    by_cases hlt : j < k
    · have hjL : j < (M.map (·.1)).length := by rw [hmn.out]; exact hlt
      have hjM : j < M.length := by rw [hn.out]; exact hlt
      have hRj := hRL.out wr hb.out
      obtain ⟨b, o, e⟩ := hRj.mat.place (by omega)
      subst e
      obtain ⟨y0, y1, y2, y3, y4⟩ := hRj.mat.one hjL
      obtain ⟨sz, hsz, hszb⟩ := hRj.set _ (mAt_mem hjM)
      obtain ⟨hD1, hD2, hD3⟩ := hRj.inn _ (mAt_mem hjM)
      have hdj := hd.out _ (mAt_mem hjM)
      have hvj := hid (vAt_vw hjM)
      rw [mAt_fst hjM] at y0 y1 y2 y3 y4
      obtain ⟨W1, hW1⟩ : ∃ W1, W1 = wr.alloc (.cells (pc5 (mAt M j).1).toArray 38) := ⟨_, rfl⟩
      have b1 : Below wr.heap.size wr W1 := by rw [hW1]; exact below_lit _ _
      have K1 : Kp S w W1 := hb.out.then b1
      have r0 : W1.heap[wr.heap.size]? = some (.cells (pc5 (mAt M j).1).toArray 38 (0, 0)) := by rw [hW1]; exact heap_alloc_new _ _
      have kC := hcl.out j hlt W1 K1 (hRB.out j wr W1 hst.out (b1.mono hb.out.size))
      have hselj : Hid (selT (M.map vw) fl (j + 1) = if fl j = true then selT (M.map vw) fl j ++ [vw (mAt M j)] else selT (M.map vw) fl j) := hid (by rw [← hvj.out]; rfl)
      replace hRj := hid hRj
      generalize hMJ : mAt M j = MJ at *
      replace hMJ := hid hMJ
      obtain ⟨⟨x, s, f, t, da, dn, dc⟩, D⟩ := MJ
      dsimp only at *
      subst hsz
      have hO1 := hid (hown.out.1.below b1)
      have hsw : w.heap.size ≤ wr.heap.size := hb.out.size
      simp only [pc5] at kC r0 hW1
      replace hD1 := hid hD1
      replace hD2 := hid hD2
      have b1h := hid b1
      clear b1
      go_wp2_with fail
      rw [← hW1]
      replace hW1 := hid hW1
      refine kC.mono ?_
      rintro e w1 ⟨rfl, hk1, hst1⟩
      have K2 : Kp S w w1 := K1.trans hk1
      have r1 : w1.heap[wr.heap.size]? = some (.cells #[.string x, .int .u32 (sz : Int), .int .i64 f, .int .i64 t, .slice da dn dc] 38 (0, 0)) := by
        rw [hk1.block _ (Array.getElem?_eq_some_iff.1 r0).1 (fun h => by have := hS.out _ h; omega)]; exact r0
      have hO2 := hid (hO1.out.kp hk1 hS.out)
      have z0 := row_cell r1 0 (.string x) rfl
      have z1 := row_cell r1 1 (.int .u32 (sz : Int)) rfl
      have z2 := row_cell r1 2 (.int .i64 f) rfl
      have z3 := row_cell r1 3 (.int .i64 t) rfl
      have z4 := row_cell r1 4 (.slice da dn dc) rfl
      have hlt1 := World.block_lt_of_cell? w1 _ z0
      replace r0 := hid r0
      replace r1 := hid r1
      replace K2 := hid K2
      replace hk1 := hid hk1
      replace hst1 := hid hst1
      cases hflj : fl j with
      | false =>
        rw [hflj, if_neg (by decide)] at hselj
        replace hflj := hid hflj
        go_wp2_with fail
        go_roundw
        case rel => exact ⟨j + 1, M', by omega, by go_num, hid ⟨hO2.out, by rw [hselj.out]; exact hown.out.2⟩, hst1, K2⟩
        case measure => simp [intOf]; omega
      | true =>
        rw [hflj, if_pos rfl] at hselj
        replace hflj := hid hflj
        have hRw1 := hRL.out w1 K2.out
        have hD2' : TAt w1 da D := by
          have h9 := (hRw1.inn _ (mAt_mem hjM)).2.1
          rw [hMJ.out] at h9
          exact h9
        have kA := apart_any ⟨x, (sz : Int), f, t, da, dn, dc⟩ D w1 hD1.out (by dsimp only; omega) hD2'
        replace hD2' := hid hD2'
        replace hRw1 := hid hRw1
        simp only [pc5] at kA
        go_wp2_with fail
        refine kA.mono ?_
        rintro e w2 ⟨xa, ya, rfl, hya, hoT, hb2⟩
        obtain ⟨J, hJ⟩ : ∃ J : Prt, J = Prt.re ⟨x, (sz : Int), f, t, da, dn, dc⟩ xa ya := ⟨_, rfl⟩
        have hJdn : Hid (J.dn = dn ∧ J.da = xa ∧ J.dc = ya ∧ J.nodes = (sz : Int)) := hid (by rw [hJ]; exact ⟨rfl, rfl, rfl, rfl⟩)
        have hJpc : pc5 (Prt.re ⟨x, (sz : Int), f, t, da, dn, dc⟩ xa ya) = pc5 J := by rw [hJ]
        have hJvw : Hid (vw (J, D) = vw (⟨x, (sz : Int), f, t, da, dn, dc⟩, D)) := hid (by rw [hJ]; exact vw_re _ _ _ _)
        simp only [pc5] at hJpc
        rw [hJpc]
        replace hJ := hid hJ
        replace hJpc := hid hJpc
        have bl := below_lit w2 (.cells (pc5 J).toArray 38)
        have hO3 := hid ((hO2.out.below hb2).below bl)
        have hT3 : TOwn (w2.alloc (.cells (pc5 J).toArray 38)) w.heap.size (.slice J.da J.dn J.dc) D := by
          rw [hJdn.out.1, hJdn.out.2.1, hJdn.out.2.2.1]
          exact owns_low (hoT.below bl) (by have := K2.out.size; omega)
        have hoff : ∀ z, J.da = some z → (Value.slice va n vc).ownBlock ≠ some z.block := fun z hz he => by
          rw [hJdn.out.2.1] at hz
          subst hz
          have h1 := owns_lt hO2.out.own he
          have h2 := (owns_blk hoT).1
          omega
        have hfew : D.length = J.dn ∧ J.dn ≤ 1000 ∧ ∃ z : Nat, J.nodes = (z : Int) ∧ z < 4294967296 := by
          rw [hJdn.out.1, hJdn.out.2.2.2]
          exact ⟨hD1.out, hdj, sz, rfl, hszb⟩
        have hcat := hid (cat_lit w2 38 (pc5 J) (pc5 J).toArray rfl)
        have hone := hid (pc5_one J)
        have hown2' : (w2.alloc (.cells (pc5 J).toArray 38)).ownsRow w.heap.size 38 5 (.slice va n vc) n ((M'.map (·.1)).flatMap pc5) := by
          have := hO3.out.own
          rw [hlenM.out] at this
          exact this
        have B2 : w.heap.size ≤ (w2.alloc (.cells (pc5 J).toArray 38)).heap.size := by
          have h1 := K2.out.size; have h2 := hb2.size; have h3 := bl.size; omega
        have hbd : (n + 1) * 64 ≤ 140737488355328 := by omega
        have K3 : Kp S w (w2.alloc (.cells (pc5 J).toArray 38)) := (K2.out.then hb2).then bl
        have hR3 : R (j + 1) (w2.alloc (.cells (pc5 J).toArray 38)) := hRB.out _ _ _ (hRB.out _ _ _ hst1.out (hb2.mono K2.out.size)) (bl.mono (Nat.le_trans K2.out.size hb2.size))
        replace hown2' := hid hown2'
        replace hT3 := hid hT3
        replace hoff := hid hoff
        replace hfew := hid hfew
        replace hoT := hid hoT
        replace K3 := hid K3
        replace hR3 := hid hR3
        replace hb2 := hid hb2
        clear z0 z1 z2 z3 z4 y0 y1 y2 y3 y4 bl
        go_wp2_with (first | (refine wpList_one rfl 29 38 (.tmp 19) rfl (pc5 J).toArray 5 i0 _ Try.underlying29 hi hz0 hz1 (by omega) (by omega) rfl rfl ?_) | (at_builtin; refine Hid.out ?_))
        refine wpList_cat _ rfl (.tmp 17) (.tmp 20) 29 rfl w.heap.size 38 i0 _ 5 64 Try.underlying29 hi hz0 hz1 hz2 rfl (by omega) _ _ _ rfl hown2'.out (some ⟨w2.heap.size, 0, none⟩) 1 1 (pc5 J) rfl rfl hcat.out hone.out (by unfold maxLen; omega) hbd B2 ?_
        intro v' w4 ho4 hg4 hv4
        have hJ4 := hid (RO.more hO3.out hlenM.out (x := J) (D := D) hT3.out hoff.out hfew.out hg4 ho4 hv4)
        have K4 : Kp S w w4 := K3.out.next (Kp.grown hg4) (fun i hi' h => by have := (hown2'.out.lt _ h).1; omega)
        have hR4 : R (j + 1) w4 := hRB.out _ _ _ hR3.out ((Kp.grown hg4).below (fun b h => (hown2'.out.lt _ h).1) B2)
        replace K4 := hid K4
        replace hR4 := hid hR4
        clear ho4 hg4 hv4 hcat
        go_wp2_with fail
        go_roundw
        case rel => exact ⟨j + 1, M' ++ [(J, D)], by omega, by go_num, hid ⟨hJ4.out, by rw [List.map_append, hown.out.2, hselj.out]; simp [hJvw.out]⟩, hR4, K4⟩
        case measure => simp [intOf]; omega
    · have hje : j = k := by omega
      subst hje
      go_wp2
      go_ret
      exact ⟨va, n, vc, M', rfl, hvc, hlenM.out, hown.out.1, hown.out.2, hst.out, hb.out⟩

end Go.Proofs.Ytjfgpepecjkdnaa
