/- A list with one more in its place; Add. -/
import Derived.Test.YtjfgpepecjkdnaaRg
namespace Go.Proofs.Ytjfgpepecjkdnaa
open Go.RowKit
set_option linter.unusedVariables false

def hasN (V : List Vw) (n : ByteArray) : Bool := V.any fun v => sameB v.name n
def NoN (V : List Vw) (n : ByteArray) (j : Nat) : Prop := ∀ i, i < j → sameB (vAt V i).name n = false
theorem hasN_yes {V : List Vw} {n : ByteArray} {i : Nat} (hi : i < V.length) (h : sameB (vAt V i).name n = true) : hasN V n = true := List.any_eq_true.2 ⟨_, vAt_mem hi, h⟩
theorem hasN_no {V : List Vw} {n : ByteArray} (h : NoN V n V.length) : hasN V n = false := by
  cases hc : hasN V n with
  | false => rfl
  | true =>
    obtain ⟨v, hv, h2⟩ := List.any_eq_true.1 hc
    obtain ⟨i, hi, rfl⟩ := List.getElem_of_mem hv
    rw [vAt_eq hi, h i hi] at h2
    cases h2

set_option maxRecDepth 100000 in
set_option maxHeartbeats 1000000 in
theorem rindex_any (a : Option Addr) (k c g : Nat) (M : List (Prt × List ByteArray)) (n : ByteArray) (w : World) (hR : RL w a k M) (hg : w.cell? ⟨g, 0, none⟩ = some (.string n)) :
    Calls Try.prog 35 #[.slice a k c, .func (.func 21) #[] #[ptr g]] w fun e w' => (∃ r : Int, e = .returned (.int .i64 r) ∧ hasN (M.map vw) n = decide (0 ≤ r)) ∧ Below w.heap.size w w' := by
  have hl := hR.le
  have hn : M.length = k := hR.len
  have hmn : (M.map (·.1)).length = k := by rw [List.length_map]; exact hn
  have hvn : (M.map vw).length = k := by rw [List.length_map]; exact hn
  replace hn := hid hn
  replace hmn := hid hmn
  replace hvn := hid hvn
  replace hR := hid hR
  replace hg := hid hg
  go_enter Try.func35, Try.ntmps35
  go_wp2_with fail
  go_loopw [8] (fun i wr => ∃ j : Nat, j ≤ k ∧ i = .int .i64 (j : Int) ∧ Hid (NoN (M.map vw) n j) ∧ Below w.heap.size w wr) (fun i _ => k - (intOf i).toNat)
  case atStart => exact ⟨0, Nat.zero_le _, rfl, hid (fun i hi => by omega), Below.refl _ _⟩
  case round =>
    obtain ⟨j, hj, rfl, hok, hb⟩ := hrel
    by_cases hlt : j < k
    · have hjL : j < (M.map (·.1)).length := by rw [hmn.out]; exact hlt
      have hjM : j < M.length := by rw [hn.out]; exact hlt
      obtain ⟨b, o, e⟩ := hR.out.mat.place (by omega)
      subst e
      obtain ⟨y0, y1, y2, y3, y4⟩ := (hR.out.mat.below hb).one hjL
      have hv1 := hid (vAt_vw hjM)
      rw [mAt_fst hjM] at y0 y1 y2 y3 y4
      have kS := cl21 (mAt M j).1 g n _ (stay hb hg.out)
      have hnm : Hid ((vAt (M.map vw) j).name = (mAt M j).1.name) := hid (by rw [hv1.out]; rfl)
      generalize mAt M j = MJ at *
      obtain ⟨⟨x1, s1, f1, t1, da1, dn1, dc1⟩, T1⟩ := MJ
      dsimp only at *
      simp only [pc5] at kS
      cases hB : sameB x1 n with
      | true =>
        have hf := hid (hasN_yes (V := M.map vw) (n := n) (i := j) (by rw [hvn.out]; exact hlt) (by rw [hnm.out]; exact hB))
        rw [hB] at kS
        replace hB := hid hB
        go_wp2_with fail
        refine kS.mono ?_
        rintro e w1 ⟨rfl, hb1⟩
        have B1 := bnext hb hb1
        go_wp2
        go_ret
        exact ⟨⟨(j : Int), rfl, by rw [hf.out]; simp⟩, B1⟩
      | false =>
        have hok2 : Hid (NoN (M.map vw) n (j + 1)) := hid fun i hi => by
          rcases Nat.lt_or_ge i j with h | h
          · exact hok.out i h
          · obtain rfl : i = j := by omega
            rw [hnm.out]; exact hB
        rw [hB] at kS
        replace hB := hid hB
        go_wp2_with fail
        refine kS.mono ?_
        rintro e w1 ⟨rfl, hb1⟩
        have B1 := bnext hb hb1
        go_wp2_with fail
        go_roundw
        case rel => exact ⟨j + 1, by omega, by go_num, hok2, B1⟩
        case measure => simp [intOf]; omega
    · have hje : j = k := by omega
      subst hje
      have hf := hid (hasN_no (V := M.map vw) (n := n) (by rw [hvn.out]; exact hok.out))
      go_wp2
      go_ret
      exact ⟨⟨-1, rfl, by rw [hf.out]; rfl⟩, hb⟩

theorem rcont_any (a : Option Addr) (k c g : Nat) (M : List (Prt × List ByteArray)) (n : ByteArray) (w : World) (hR : RL w a k M) (hg : w.cell? ⟨g, 0, none⟩ = some (.string n)) :
    Calls Try.prog 20 #[.slice a k c, .func (.func 21) #[] #[ptr g]] w fun e w' => e = .returned (.bool (hasN (M.map vw) n)) ∧ Below w.heap.size w w' := by
  have kI := rindex_any a k c g M n w hR hg
  replace hR := hid hR
  replace hg := hid hg
  generalize hasN (M.map vw) n = X at *
  go_enter Try.func20, Try.ntmps20
  go_wp2_with fail
  refine kI.mono ?_
  rintro e w1 ⟨⟨r, rfl, hr⟩, hb1⟩
  replace hr := hid hr
  go_wp2
  go_ret
  exact ⟨ret_bool hr.out.symm, hb1⟩

theorem RO.cat {w w1 : World} {base n m : Nat} {v v' : Value} {M M2 : List (Prt × List ByteArray)} (h : RO w base v M) (hn : M.length = n) (hm : M2.length = m)
    (h2 : ∀ z ∈ M2, TOwn w base (.slice z.1.da z.1.dn z.1.dc) z.2 ∧ (∀ y, z.1.da = some y → v.ownBlock ≠ some y.block) ∧ (z.2.length = z.1.dn ∧ z.1.dn ≤ 1000 ∧ ∃ q : Nat, z.1.nodes = (q : Int) ∧ q < 4294967296))
    (hg : w.grownBy w1 v.ownBlock) (ho : w1.ownsRow base 38 5 v' (n + m) ((M.map (·.1)).flatMap pc5 ++ (M2.map (·.1)).flatMap pc5)) (hv : v'.ownBlock = v.ownBlock ∨ v'.ownBlock = some w.heap.size) : RO w1 base v' (M ++ M2) := by
  have kg := Kp.grown hg
  have all : ∀ z ∈ M ++ M2, TOwn w base (.slice z.1.da z.1.dn z.1.dc) z.2 ∧ (∀ y, z.1.da = some y → v.ownBlock ≠ some y.block) ∧ (z.2.length = z.1.dn ∧ z.1.dn ≤ 1000 ∧ ∃ q : Nat, z.1.nodes = (q : Int) ∧ q < 4294967296) := by
    intro z hz
    rcases List.mem_append.1 hz with h1 | h1
    · exact ⟨h.dep z h1, h.off z h1, h.few z h1⟩
    · exact h2 z h1
  refine ⟨?_, fun z hz => ?_, fun z hz y hy => ?_, fun z hz => (all z hz).2.2⟩
  · rw [List.length_append, hn, hm, List.map_append, List.flatMap_append]
    exact ho
  · obtain ⟨h1, h2, _⟩ := all z hz
    refine owns_kp h1 kg fun k hk hs => ?_
    cases ha : z.1.da with
    | none => rw [ha] at hk; simp [Value.ownBlock] at hk
    | some y =>
      rw [ha, ownBlock_some] at hk
      exact h2 y ha (by rw [hs, ← hk])
  · obtain ⟨h1, h2, _⟩ := all z hz
    rcases hv with e | e
    · rw [e]; exact h2 y hy
    · rw [e]
      intro he
      rw [hy] at h1
      have := (owns_blk h1).2
      simp only [Option.some.injEq] at he
      omega

theorem RO.low {w : World} {base base' : Nat} {v : Value} {M : List (Prt × List ByteArray)} (h : RO w base v M) (hb : base' ≤ base) : RO w base' v M := ⟨owns_low h.own hb, fun p hp => owns_low (h.dep p hp) hb, h.off, h.few⟩
theorem flat_one (M : List (Prt × List ByteArray)) : ∀ u ∈ (M.map (·.1)).flatMap pc5, u.oneCell' = true := by
  intro u hu
  obtain ⟨p, _, hp⟩ := List.mem_flatMap.1 hu
  exact pc5_one p u hp
theorem flat_five (M : List (Prt × List ByteArray)) : ((M.map (·.1)).flatMap pc5).length = M.length * 5 := by
  induction M with
  | nil => rfl
  | cons x r ih => simp only [List.map_cons, List.flatMap_cons, List.length_append, pc5_len, ih, List.length_cons]; omega

set_option maxRecDepth 100000 in
set_option maxHeartbeats 4000000 in
theorem among_any (a : Option Addr) (k c : Nat) (M : List (Prt × List ByteArray)) (x : ByteArray) (s : Nat) (f t : Int) (da : Option Addr) (dn dc : Nat) (D : List ByteArray) (w : World) (hR : RL w a k M) (hk : k ≤ 1000) (hd : ∀ p ∈ M, p.1.dn ≤ 1000)
    (hs : s < 4294967296) (hD : D.length = dn) (hdn : dn ≤ 1000) (hat : TAt w da D) :
    Calls Try.prog 22 #[.slice a k c, .agg #[.string x, .int .u32 (s : Int), .int .i64 f, .int .i64 t, .slice da dn dc]] w
      fun e w' => ∃ ra n rc M', e = .returned (.slice ra n rc) ∧ n ≤ rc ∧ RL w' ra n M' ∧ M'.map vw = amP (M.map vw) ⟨x, s, f, t, D⟩ ∧ RO w' w.heap.size (.slice ra n rc) M' ∧ Below w.heap.size w w' := by
  obtain ⟨i0, hi, hz0, hz1, hz2⟩ := info_parts info38r
  obtain ⟨W0, hW0⟩ : ∃ W0, W0 = w.alloc (.cells #[.string x, .int .u32 (s : Int), .int .i64 f, .int .i64 t, .slice da dn dc] 38) := ⟨_, rfl⟩
  have b0 : Below w.heap.size w W0 := by rw [hW0]; exact below_lit _ _
  have r0 : W0.heap[w.heap.size]? = some (.cells #[.string x, .int .u32 (s : Int), .int .i64 f, .int .i64 t, .slice da dn dc] 38 (0, 0)) := by rw [hW0]; exact heap_alloc_new _ _
  have hc := row_cell r0 0 (.string x) rfl
  have hV : (M.map vw).length = k := by rw [List.length_map]; exact hR.len
  have hst : ∀ {w' w'' : World}, w'.cell? ⟨w.heap.size, 0, none⟩ = some (.string x) → Below W0.heap.size w' w'' → w''.cell? ⟨w.heap.size, 0, none⟩ = some (.string x) := fun h hb => by
    rw [hb.cell (by have := World.block_lt_of_cell? W0 _ hc; exact this)]; exact h
  have kK := kept36 a k c w.heap.size M (fun _ => False) (fun _ w' => w'.cell? ⟨w.heap.size, 0, none⟩ = some (.string x)) (fun j => befB x (vAt (M.map vw) j)) W0 hk hd
    (fun w' h => hR.below (bnext b0 (kp_false h))) (fun _ h => h.elim) hc (fun j w' w'' h hb => hst h hb)
    (fun j hj w' hk' hq => by
      have hjM : j < M.length := by rw [hR.len]; exact hj
      refine (cl36 (mAt M j).1 w.heap.size x w' hq).mono ?_
      rintro e w'' ⟨rfl, hb⟩
      exact ⟨by rw [vAt_vw hjM]; rfl, Kp.of_below hb, stay hb hq⟩)
  have kK2 := fun (w1 : World) (hb1 : Below W0.heap.size W0 w1) => kept37 a k c w.heap.size M (fun _ => False) (fun _ w' => w'.cell? ⟨w.heap.size, 0, none⟩ = some (.string x)) (fun j => aftB x (vAt (M.map vw) j)) w1 hk hd
    (fun w' h => hR.below (bnext (bnext b0 hb1) (kp_false h))) (fun _ h => h.elim) (stay hb1 hc) (fun j w' w'' h hb => hst h (hb.mono hb1.size))
    (fun j hj w' hk' hq => by
      have hjM : j < M.length := by rw [hR.len]; exact hj
      refine (cl37 (mAt M j).1 w.heap.size x w' hq).mono ?_
      rintro e w'' ⟨rfl, hb⟩
      exact ⟨by rw [vAt_vw hjM]; rfl, Kp.of_below hb, stay hb hq⟩)
  have kA := fun (w' : World) (hb : Below w.heap.size w w') => apart_any ⟨x, (s : Int), f, t, da, dn, dc⟩ D w' hD (by dsimp only; omega) (hat.below hb)
  simp only [pc5] at kA
  have hse1 : Hid (selT (M.map vw) (fun j => befB x (vAt (M.map vw) j)) k = (M.map vw).filter (befB x)) := hid (by rw [sel_filter _ _ _ (by omega), ← hV, List.take_length])
  have hse2 : Hid (selT (M.map vw) (fun j => aftB x (vAt (M.map vw) j)) k = (M.map vw).filter (aftB x)) := hid (by rw [sel_filter _ _ _ (by omega), ← hV, List.take_length])
  have hsl1 := sel_len (M.map vw) (fun j => befB x (vAt (M.map vw) j)) k
  have hsl2 := sel_len (M.map vw) (fun j => aftB x (vAt (M.map vw) j)) k
  replace hsl1 := hid hsl1
  replace hsl2 := hid hsl2
  replace hR := hid hR
  replace hD := hid hD
  replace hat := hid hat
  replace kA := hid kA
  replace kK2 := hid kK2
  replace hV := hid hV
  clear hst
  replace hd := hid hd
  replace hc := hid hc
  go_enter Try.func22, Try.ntmps22
  go_wp2_with fail
  rw [← hW0]
  replace hW0 := hid hW0
  refine kK.mono ?_
  clear kK
  rintro e w1 ⟨ra, n, rc, M1, rfl, hn, hl1, hO1, hv1, _, hk1⟩
  have hb1 := kp_false hk1
  have hn1 : n ≤ k := by
    have h1 : (M1.map vw).length = n := by rw [List.length_map]; exact hl1
    rw [hv1] at h1
    have := hsl1.out
    omega
  have r1 : w1.heap[w.heap.size]? = some (.cells #[.string x, .int .u32 (s : Int), .int .i64 f, .int .i64 t, .slice da dn dc] 38 (0, 0)) := by
    rw [hb1.block _ (Array.getElem?_eq_some_iff.1 r0).1]; exact r0
  replace hO1 := hid hO1
  replace hv1 := hid hv1
  replace hl1 := hid hl1
  replace r0 := hid r0
  replace r1 := hid r1
  clear hk1
  have kB := kK2.out w1 hb1
  go_wp2_with fail
  refine kB.mono ?_
  clear kB
  rintro e w2 ⟨rb, m, rd, M2, rfl, hm, hl2, hO2, hv2, _, hk2⟩
  have hb2 := kp_false hk2
  have hm1 : m ≤ k := by
    have h1 : (M2.map vw).length = m := by rw [List.length_map]; exact hl2
    rw [hv2] at h1
    have := hsl2.out
    omega
  have r2 : w2.heap[w.heap.size]? = some (.cells #[.string x, .int .u32 (s : Int), .int .i64 f, .int .i64 t, .slice da dn dc] 38 (0, 0)) := by
    rw [hb2.block _ (Array.getElem?_eq_some_iff.1 r1.out).1]; exact r1.out
  have z0 := row_cell r2 0 (.string x) rfl
  have z1 := row_cell r2 1 (.int .u32 (s : Int)) rfl
  have z2 := row_cell r2 2 (.int .i64 f) rfl
  have z3 := row_cell r2 3 (.int .i64 t) rfl
  have z4 := row_cell r2 4 (.slice da dn dc) rfl
  have hltz := World.block_lt_of_cell? w2 _ z0
  have D2 := bnext (bnext b0 hb1) hb2
  have kC := kA.out w2 D2
  replace hO2 := hid hO2
  replace hv2 := hid hv2
  replace hl2 := hid hl2
  replace r2 := hid r2
  clear hk2
  go_wp2_with fail
  refine kC.mono ?_
  clear kC
  rintro e w3 ⟨xa, ya, rfl, hya, hoT, hb3⟩
  obtain ⟨J, hJ⟩ : ∃ J : Prt, J = Prt.re ⟨x, (s : Int), f, t, da, dn, dc⟩ xa ya := ⟨_, rfl⟩
  have hJdn : Hid (J.dn = dn ∧ J.da = xa ∧ J.dc = ya ∧ J.nodes = (s : Int)) := hid (by rw [hJ]; exact ⟨rfl, rfl, rfl, rfl⟩)
  have hJpc : pc5 (Prt.re ⟨x, (s : Int), f, t, da, dn, dc⟩ xa ya) = pc5 J := by rw [hJ]
  have hJvw : Hid (vw (J, D) = ⟨x, s, f, t, D⟩) := hid (by rw [hJ]; simp [vw, Prt.re])
  simp only [pc5] at hJpc
  rw [hJpc]
  replace hJ := hid hJ
  replace hJpc := hid hJpc
  have bl := below_lit w3 (.cells (pc5 J).toArray 38)
  have hsz1 : W0.heap.size ≤ w1.heap.size := hb1.size
  have hsz2 : w1.heap.size ≤ w2.heap.size := hb2.size
  have hsz3 : w2.heap.size ≤ w3.heap.size := hb3.size
  have hsz4 : w3.heap.size ≤ (w3.alloc (.cells (pc5 J).toArray 38)).heap.size := bl.size
  have hO3 := hid (((hO1.out.below hb2).below hb3).below bl)
  have hO3b := hid ((hO2.out.below hb3).below bl)
  have hT3 : TOwn (w3.alloc (.cells (pc5 J).toArray 38)) W0.heap.size (.slice J.da J.dn J.dc) D := by
    rw [hJdn.out.1, hJdn.out.2.1, hJdn.out.2.2.1]
    exact owns_low (hoT.below bl) (by omega)
  have hoff : ∀ z, J.da = some z → (Value.slice ra n rc).ownBlock ≠ some z.block := fun z hz he => by
    rw [hJdn.out.2.1] at hz
    subst hz
    have h1 := owns_lt hO1.out.own he
    have h2 := (owns_blk hoT).1
    omega
  have hfew : D.length = J.dn ∧ J.dn ≤ 1000 ∧ ∃ z : Nat, J.nodes = (z : Int) ∧ z < 4294967296 := by
    rw [hJdn.out.1, hJdn.out.2.2.2]
    exact ⟨hD.out, hdn, s, rfl, hs⟩
  have hcat := hid (cat_lit w3 38 (pc5 J) (pc5 J).toArray rfl)
  have hone := hid (pc5_one J)
  have hown2' : (w3.alloc (.cells (pc5 J).toArray 38)).ownsRow W0.heap.size 38 5 (.slice ra n rc) n ((M1.map (·.1)).flatMap pc5) := by
    have := hO3.out.own
    rw [hl1.out] at this
    exact this
  have B3 : W0.heap.size ≤ (w3.alloc (.cells (pc5 J).toArray 38)).heap.size := by omega
  have hbd : (n + 1) * 64 ≤ 140737488355328 := by omega
  have D3 := bnext (bnext D2 hb3) bl
  replace hown2' := hid hown2'
  replace hT3 := hid hT3
  replace hoff := hid hoff
  replace hfew := hid hfew
  replace hoT := hid hoT
  clear z0 z1 z2 z3 z4
  go_wp2_with (first | (refine wpList_one rfl 29 38 (.tmp 15) rfl (pc5 J).toArray 5 i0 _ Try.underlying29 hi hz0 hz1 (by omega) (by omega) rfl rfl ?_) | (at_builtin; refine Hid.out ?_))
  refine wpList_cat _ rfl (.tmp 13) (.tmp 16) 29 rfl W0.heap.size 38 i0 _ 5 64 Try.underlying29 hi hz0 hz1 hz2 rfl (by omega) _ _ _ rfl hown2'.out (some ⟨w3.heap.size, 0, none⟩) 1 1 (pc5 J) rfl rfl hcat.out hone.out (by unfold maxLen; omega) hbd B3 ?_
  intro v' w4 ho4 hg4 hv4
  have hJ4 := hid (RO.more hO3.out hl1.out (x := J) (D := D) hT3.out hoff.out hfew.out hg4 ho4 hv4)
  have hx1 : ∀ b, (Value.slice ra n rc).ownBlock = some b → b < w1.heap.size := fun b hb => owns_lt hO1.out.own hb
  have kg := Kp.grown hg4
  have hO4b : RO w4 w1.heap.size (.slice rb m rd) M2 := hO3b.out.kp kg (fun b hb => hx1 b hb)
  have hv4' : ∀ b, v'.ownBlock = some b → b < w1.heap.size ∨ w2.heap.size ≤ b := fun b hb => by
    rcases hv4 with e | e
    · rw [e] at hb; exact .inl (hx1 b hb)
    · rw [e] at hb; simp only [Option.some.injEq] at hb; right; omega
  have D4 : Below w.heap.size w w4 := D3.trans (kg.below (fun b h => by have := (hown2'.out.lt _ h).1; have := b0.size; omega) (by have := b0.size; omega))
  have hsz5 : W0.heap.size ≤ w4.heap.size := by have := kg.size; omega
  have h2all : ∀ z ∈ M2, TOwn w4 W0.heap.size (.slice z.1.da z.1.dn z.1.dc) z.2 ∧ (∀ y, z.1.da = some y → v'.ownBlock ≠ some y.block) ∧ (z.2.length = z.1.dn ∧ z.1.dn ≤ 1000 ∧ ∃ q : Nat, z.1.nodes = (q : Int) ∧ q < 4294967296) := fun z hz =>
    ⟨owns_low (hO4b.dep z hz) hsz1, fun y hy he => by
      have h1 := hO2.out.dep z hz
      have h2 := hO4b.dep z hz
      rw [hy] at h1 h2
      have h3 := (owns_blk h1).2
      have h4 := (owns_blk h2).1
      rcases hv4' _ he with h5 | h5 <;> omega, hO4b.few z hz⟩
  have hcat2 : CAt w4 rb ((M2.map (·.1)).flatMap pc5) := owns_cat hO4b.own
  have hown4 : w4.ownsRow W0.heap.size 38 5 v' (n + 1) (((M1 ++ [(J, D)]).map (·.1)).flatMap pc5) := by
    rw [List.map_append, List.flatMap_append]; simpa using ho4
  have hflat : Hid (((M2.map (·.1)).flatMap pc5).length = m * 5) := hid (by rw [flat_five, hl2.out])
  have hbd2 : (n + 1 + m) * 64 ≤ 140737488355328 := by omega
  have hl4 : (M1 ++ [(J, D)]).length = n + 1 := by rw [List.length_append, hl1.out]; rfl
  have hone2 := hid (flat_one M2)
  replace hcat2 := hid hcat2
  replace hown4 := hid hown4
  replace h2all := hid h2all
  replace hO4b := hid hO4b
  replace hl4 := hid hl4
  replace kg := hid kg
  clear ho4 hg4 hcat hv4
  go_wp2_with (at_builtin; refine Hid.out ?_)
  refine wpList_cat _ rfl (.tmp 17) (.tmp 18) 29 rfl W0.heap.size 38 i0 _ 5 64 Try.underlying29 hi hz0 hz1 hz2 rfl (by omega) v' (n + 1) _ rfl hown4.out rb m rd _ rfl hflat.out hcat2.out hone2.out (by unfold maxLen; omega) hbd2 hsz5 ?_
  intro v5 w5 ho5 hg5 hv5
  have hJ5 := RO.cat hJ4.out hl4.out hl2.out h2all.out hg5 ho5 hv5
  have D5 : Below w.heap.size w w5 := D4.trans ((Kp.grown hg5).below (fun b h => by have := (hown4.out.lt _ h).1; have := b0.size; omega) (by have := b0.size; omega))
  obtain ⟨re, rf, e, hre⟩ := owns_form ho5
  subst e
  have hfin : (M1 ++ [(J, D)] ++ M2).length = n + 1 + m := by rw [List.length_append, hl4.out, hl2.out]
  have hmap : (M1 ++ [(J, D)] ++ M2).map vw = amP (M.map vw) ⟨x, s, f, t, D⟩ := by
    rw [List.map_append, List.map_append, hv1.out, hv2.out, hse1.out, hse2.out]
    simp only [List.map_cons, List.map_nil, hJvw.out]
    rfl
  have hRL := hid (hJ5.rl hfin (by omega))
  replace hJ5 := hid hJ5
  replace hmap := hid hmap
  replace hfin := hid hfin
  clear ho5 hg5 hv5
  go_wp2
  go_ret
  exact ⟨re, n + 1 + m, rf, _, rfl, hre, hRL.out, hmap.out, hJ5.out.low b0.size, D5⟩

end Go.Proofs.Ytjfgpepecjkdnaa
