/- Copies of lists of jobs and of partitions. -/
import Derived.Test.YtflapjehkgefdaaGreatCp
import Derived.Great.BuildSlice
namespace Go.Proofs.YtflapjehkgefdaaGreat
open Go.RowKit
set_option linter.unusedVariables false

/-- A slice literal of one struct. -/
theorem wpList_one {ops : Array Oper} {rest : List Oper} {o : Oper} {a : Act} {w : World} {Q : Exit → Act → World → Prop} (hg : o.guard = none) (t e : TypeId) (x : Operand) (ho : o.op = .buildSlice t 1 #[(0, x)])
    (cs : Array Value) (s : Nat) (ie : TypeInfo) (z : Value) (hu : Tryz.prog.underlying t = some (.slice e)) (hie : Tryz.prog.info? e = some ie) (hz : ie.zero = some z) (hsz : ie.size = s) (hs : 0 < s) (hs2 : s ≤ 1000) (hx : a.eval x = .agg cs) (hc : cs.size = s)
    (h : wpList Tryz.prog ops Q rest (a.put o.dst (.slice (some ⟨w.heap.size, 0, none⟩) 1 1)) (w.alloc (.cells cs e))) : wpList Tryz.prog ops Q (o :: rest) a w := by
  refine wpList_buildSlice hg t e 1 _ ho cs ie z hu hie hz (by rw [hsz]; omega) (by rw [hsz]; omega) ?_ h
  have e1 : ((#[(0, x)] : Array (Nat × Operand)).map fun (i, x) => (i, a.eval x)).toList = (([Value.agg cs].zipIdx 0).map fun x => (x.2, x.1)) := by simp [hx]
  rw [e1, hsz]
  have := Great.fill_whole hs [Value.agg cs] ((Array.range (1 * s)).map (z.cells[· % z.cells.size]!)) (fun v hv => by rw [List.mem_singleton.1 hv]; exact hc) (by simp)
  rw [this]
  simp [Value.cells]
theorem owns_blk {w : World} {base e size n m c : Nat} {y : Addr} {xs : List Value} (h : w.ownsRow base e size (.slice (some y) m c) n xs) : base ≤ y.block ∧ y.block < w.heap.size := by
  rcases h.2 with ⟨hv, _⟩ | ⟨g, cap, cur, hv, hb, hg, _⟩
  · simp at hv
  · simp only [Value.slice.injEq, Option.some.injEq] at hv
    rw [hv.1]
    exact ⟨hb, (Array.getElem?_eq_some_iff.1 hg).1⟩
theorem owns_lt {w : World} {base e size n g : Nat} {v : Value} {xs : List Value} (h : w.ownsRow base e size v n xs) (hg : v.ownBlock = some g) : g < w.heap.size := by
  obtain ⟨a, c, rfl, _⟩ := owns_form h
  cases a with
  | none => simp [Value.ownBlock] at hg
  | some y => simp [Value.ownBlock] at hg; rw [← hg]; exact (owns_blk h).2
theorem ownBlock_some (y : Addr) (n c : Nat) : (Value.slice (some y) n c).ownBlock = some y.block := rfl
theorem info53 : (Tryz.prog.info? 37).map (fun i => (i.zero, i.size, i.bytes)) = some (some (.agg #[.int .i64 0, .int .i64 0, .int .i64 0, .string ByteArray.empty, .string ByteArray.empty, .string ByteArray.empty, .string ByteArray.empty, .int .i64 0, .int .i64 0, .int .i64 0, .slice none 0 0, .int .u8 0, .int .i64 0, .int .i64 0, .int .i64 0, .int .u32 0, .int .i64 0]), 17, 184) := by kernel_rfl
theorem info90 : (Tryz.prog.info? 67).map (fun i => (i.zero, i.size, i.bytes)) = some (some (.agg #[.string ByteArray.empty, .int .u32 0, .int .i64 0, .int .i64 0, .slice none 0 0]), 5, 64) := by kernel_rfl
theorem jc_one (J : Job) : ∀ u ∈ jc J, u.oneCell' = true := by
  intro u hu
  have := Array.all_eq_true_iff_forall_mem.1 (jc_all J) u (by simpa using hu)
  exact this
theorem pc5_one (J : Prt) : ∀ u ∈ pc5 J, u.oneCell' = true := by
  intro u hu
  have := Array.all_eq_true_iff_forall_mem.1 (pc5_all J) u (by simpa using hu)
  exact this
def PtAt (w : World) (a : Option Addr) (L : List Prt) : Prop := CAt w a (L.flatMap pc5)
theorem PtAt.below {w w' : World} {a : Option Addr} {C : List Prt} (h : PtAt w a C) (hb : Below w.heap.size w w') : PtAt w' a C := CAt.below h hb
theorem PtAt.place {w : World} {a : Option Addr} {C : List Prt} (h : PtAt w a C) (h0 : 0 < C.length) : ∃ b o, a = some ⟨b, o, none⟩ := flat_place pc5 5 pc5_len (by omega) h h0
theorem PtAt.range {w : World} {b o : Nat} {C : List Prt} (h : PtAt w (some ⟨b, o, none⟩) C) {i : Nat} (hi : i < C.length) : w.rangeAt b (o + i * 5) (pc5 (prtAt C i)) := by
  intro r v hv
  have hr : r < 5 := by
    rcases Nat.lt_or_ge r 5 with h1 | h1
    · exact h1
    · rw [List.getElem?_eq_none (by rw [pc5_len]; exact h1)] at hv; cases hv
  have := flat_cell pc5 5 pc5_len (by omega) h hi r hr
  simp only [prtAt_eq hi] at this
  rw [this]
  rw [List.getElem?_eq_getElem (by rw [pc5_len]; exact hr)] at hv
  exact hv

/-- A row of the call's own, of Job that point at rows of the call's own. -/
structure JO (w : World) (base : Nat) (v : Value) (M : List (Job × List Dp)) : Prop where
  own : w.ownsRow base 37 17 v M.length ((M.map (·.1)).flatMap jc)
  dep : ∀ p ∈ M, DOwn w base (.slice p.1.s.da p.1.s.dn p.1.s.dc) p.2
  off : ∀ p ∈ M, ∀ y, p.1.s.da = some y → v.ownBlock ≠ some y.block

theorem JO.nil (w : World) (base : Nat) : JO w base (.slice none 0 0) [] := ⟨World.ownsRow_nil _ _ _ _, (fun x h => by cases h), (fun x h => by cases h)⟩
theorem JO.below {w w' : World} {base : Nat} {v : Value} {M : List (Job × List Dp)} (h : JO w base v M) (hb : Below w.heap.size w w') : JO w' base v M := ⟨owns_below h.own hb, fun p hp => (h.dep p hp).below hb, h.off⟩

theorem JO.more {w w1 : World} {base n : Nat} {v v' : Value} {M : List (Job × List Dp)} {x : Job} {D : List Dp} (h : JO w base v M) (hn : M.length = n) (hx : DOwn w base (.slice x.s.da x.s.dn x.s.dc) D) (hoff : ∀ y, x.s.da = some y → v.ownBlock ≠ some y.block)
    (hg : w.grownBy w1 v.ownBlock) (ho : w1.ownsRow base 37 17 v' (n + 1) ((M.map (·.1)).flatMap jc ++ jc x)) (hv : v'.ownBlock = v.ownBlock ∨ v'.ownBlock = some w.heap.size) : JO w1 base v' (M ++ [(x, D)]) := by
  have kg := Kp.grown hg
  have all : ∀ z ∈ M ++ [(x, D)], DOwn w base (.slice z.1.s.da z.1.s.dn z.1.s.dc) z.2 ∧ (∀ y, z.1.s.da = some y → v.ownBlock ≠ some y.block) := by
    intro z hz
    rcases List.mem_append.1 hz with h1 | h1
    · exact ⟨h.dep z h1, h.off z h1⟩
    · rw [List.mem_singleton.1 h1]; exact ⟨hx, hoff⟩
  refine ⟨?_, fun z hz => ?_, fun z hz y hy => ?_⟩
  · rw [List.length_append, hn, List.map_append, List.flatMap_append]
    simpa using ho
  · obtain ⟨h1, h2⟩ := all z hz
    refine owns_kp h1 kg fun k hk hs => ?_
    cases ha : z.1.s.da with
    | none => rw [ha] at hk; simp [Value.ownBlock] at hk
    | some y =>
      rw [ha, ownBlock_some] at hk
      exact h2 y ha (by rw [hs, ← hk])
  · obtain ⟨h1, h2⟩ := all z hz
    rcases hv with e | e
    · rw [e]; exact h2 y hy
    · rw [e]
      intro he
      rw [hy] at h1
      have := (owns_blk h1).2
      simp only [Option.some.injEq] at he
      omega

/-- The same, but for where what they point at lies. -/
def ReJ : List (Job × List Dp) → List (Job × List Dp) → Prop
  | [], [] => True
  | p :: r, q :: t => (∃ x y, q.1 = p.1.re x y) ∧ q.2 = p.2 ∧ ReJ r t
  | _, _ => False
theorem reJ_len : ∀ {A B : List (Job × List Dp)}, ReJ A B → B.length = A.length
  | [], [], _ => rfl
  | p :: r, q :: t, h => by rw [List.length_cons, List.length_cons, reJ_len h.2.2]
  | [], q :: t, h => by cases h
  | p :: r, [], h => by cases h
theorem reJ_snoc : ∀ {A B : List (Job × List Dp)} {p q : Job × List Dp}, ReJ A B → (∃ x y, q.1 = p.1.re x y) → q.2 = p.2 → ReJ (A ++ [p]) (B ++ [q])
  | [], [], p, q, _, h1, h2 => ⟨h1, h2, trivial⟩
  | _ :: r, _ :: t, p, q, h, h1, h2 => ⟨h.1, h.2.1, reJ_snoc h.2.2 h1 h2⟩
  | [], q :: t, _, _, h, _, _ => by cases h
  | p :: r, [], _, _, h, _, _ => by cases h

/-- What is handed in: each with what it points at. -/
def JIn (w : World) (M : List (Job × List Dp)) : Prop := ∀ p ∈ M, p.2.length = p.1.s.dn ∧ DAt w p.1.s.da p.2 ∧ p.1.s.dn * 16 ≤ 140737488355328
theorem JIn.below {w w' : World} {M : List (Job × List Dp)} (h : JIn w M) (hb : Below w.heap.size w w') : JIn w' M := fun p hp => ⟨(h p hp).1, (h p hp).2.1.below hb, (h p hp).2.2⟩

set_option maxRecDepth 100000 in
set_option maxHeartbeats 2000000 in
theorem copyJ (a : Option Addr) (k c : Nat) (M : List (Job × List Dp)) (w : World) (hn : M.length = k) (hl : k * 184 ≤ 140737488355328) (hat : JAt w a (M.map (·.1))) (hin : JIn w M) :
    Calls Tryz.prog 7 #[.slice a k c] w fun e w' => ∃ ra rc M', e = .returned (.slice ra k rc) ∧ k ≤ rc ∧ JO w' w.heap.size (.slice ra k rc) M' ∧ ReJ M M' ∧ Below w.heap.size w w' := by
  obtain ⟨i0, hi, hz0, hz1, hz2⟩ := info_parts info53
  have hmn : (M.map (·.1)).length = k := by rw [List.length_map]; exact hn
  replace hn := hid hn
  replace hmn := hid hmn
  replace hat := hid hat
  replace hin := hid hin
  go_enter Tryz.func7, Tryz.ntmps7
  go_wp2_with fail
  go_loopw [3, 4] (fun v i wr => ∃ (j : Nat) (M' : List (Job × List Dp)), j ≤ k ∧ i = .int .i64 (j : Int) ∧ Hid (JO wr w.heap.size v M' ∧ ReJ (M.take j) M') ∧ Below w.heap.size w wr) (fun _ i _ => k - (intOf i).toNat)
  case atStart => exact ⟨0, [], Nat.zero_le _, rfl, hid ⟨JO.nil _ _, trivial⟩, Below.refl _ _⟩
  case round =>
    obtain ⟨j, M', hj, rfl, hown, hb⟩ := hrel
    have hlenM : Hid (M'.length = j) := hid (by rw [reJ_len hown.out.2, List.length_take]; have := hn.out; omega)
    obtain ⟨va, vc, e, hvc⟩ := owns_form hown.out.1.own
    subst e
    rw [hlenM.out] at hown hvc ⊢
    by_cases hlt : j < k
    · have hjL : j < (M.map (·.1)).length := by rw [hmn.out]; exact hlt
      have hjM : j < M.length := by rw [hn.out]; exact hlt
      obtain ⟨b, o, e⟩ := hat.out.place (by omega)
      subst e
      have hcj := hid ((hat.out.below hb).range hjL)
      obtain ⟨hd1, hd2, hd3⟩ := (hin.out.below hb) M[j] (List.getElem_mem hjM)
      have hMj : M[j].1 = jobAt (M.map (·.1)) j := by rw [← jobAt_eq hjL]; simp
      rw [hMj] at hd1 hd2 hd3
      have hnext : Hid (M.take (j + 1) = M.take j ++ [(jobAt (M.map (·.1)) j, M[j].2)]) := hid (by rw [take_more hjM, ← hMj])
      generalize M[j].2 = D at *
      generalize jobAt (M.map (·.1)) j = J at *
      replace hMj := hid hMj
      have kC := copyjob J D wr hd1 hd3 hd2
      replace hd1 := hid hd1
      replace hd2 := hid hd2
      have hbd : (j + 1) * 184 ≤ 140737488355328 := Nat.le_trans (Nat.mul_le_mul_right _ hlt) hl
      go_wp2_with (refine wpList_load_mid rfl 37 (.tmp 14) rfl b (o + j * 17) rfl (jc J) _ hcj.out Tryz.underlying37 rfl (by kernel_rfl) ?_)
      refine kC.mono ?_
      rintro e w1 ⟨x, y, rfl, hy, ho, hb1⟩
      have B1 := bnext hb hb1
      have bl := below_lit w1 (.cells (jc (J.re x y)).toArray 37)
      have B2 := bnext B1 bl
      have hJO := hid ((hown.out.1.below hb1).below bl)
      have ho2 : DOwn (w1.alloc (.cells (jc (J.re x y)).toArray 37)) w.heap.size (.slice x J.s.dn y) D := owns_low (ho.below bl) (by have := hb.size; omega)
      have hoff : ∀ z, x = some z → (Value.slice va j vc).ownBlock ≠ some z.block := fun z hz he => by
        subst hz
        have h1 := owns_lt hown.out.1.own he
        have h2 := (owns_blk ho).1
        omega
      have hcat := hid (cat_lit w1 37 (jc (J.re x y)) (jc (J.re x y)).toArray rfl)
      have hone := hid (jc_one (J.re x y))
      have hown2' : (w1.alloc (.cells (jc (J.re x y)).toArray 37)).ownsRow w.heap.size 37 17 (.slice va j vc) j ((M'.map (·.1)).flatMap jc) := by
        have := hJO.out.own
        rw [hlenM.out] at this
        exact this
      replace hown2' := hid hown2'
      replace ho2 := hid ho2
      replace hoff := hid hoff
      replace ho := hid ho
      clear hcj
      go_wp2_with (first | (refine wpList_one rfl 29 37 (.tmp 16) rfl (jc (J.re x y)).toArray 17 i0 _ Tryz.underlying29 hi hz0 hz1 (by omega) (by omega) rfl rfl ?_) | (at_builtin; refine Hid.out ?_))
      refine wpList_cat _ rfl (.tmp 11) (.tmp 17) 29 rfl w.heap.size 37 i0 _ 17 184 Tryz.underlying29 hi hz0 hz1 hz2 rfl (by omega) _ _ _ rfl hown2'.out (some ⟨w1.heap.size, 0, none⟩) 1 1 (jc (J.re x y)) rfl rfl hcat.out hone.out (by unfold maxLen; omega) hbd B2.size ?_
      intro v' w4 ho4 hg4 hv4
      have hJ4 := hid (JO.more hJO.out hlenM.out (x := J.re x y) (D := D) ho2.out hoff.out hg4 ho4 hv4)
      have B4 : Below w.heap.size w w4 := Below.grown B2 hg4 B2.size (fun j hj => (hown2'.out.lt _ hj).1)
      have hre := hid (reJ_snoc (p := (J, D)) (q := (J.re x y, D)) hown.out.2 ⟨x, y, rfl⟩ rfl)
      clear ho4 hg4 hv4 hcat
      go_wp2_with fail
      go_roundw
      case rel => exact ⟨j + 1, M' ++ [(J.re x y, D)], by omega, by go_num, hid ⟨hJ4.out, by rw [hnext.out]; exact hre.out⟩, B4⟩
      case measure => simp [intOf]; omega
    · have hje : j = k := by omega
      subst hje
      have hf : M.take j = M := by rw [← hn.out, List.take_length]
      rw [hf] at hown
      replace hf := hid hf
      go_wp2
      go_ret
      exact ⟨va, vc, M', rfl, hvc, hown.out.1, hown.out.2, hb⟩

/-- A row of the call's own, of Prt that point at rows of the call's own. -/
structure PO (w : World) (base : Nat) (v : Value) (M : List (Prt × List ByteArray)) : Prop where
  own : w.ownsRow base 67 5 v M.length ((M.map (·.1)).flatMap pc5)
  dep : ∀ p ∈ M, TOwn w base (.slice p.1.da p.1.dn p.1.dc) p.2
  off : ∀ p ∈ M, ∀ y, p.1.da = some y → v.ownBlock ≠ some y.block

theorem PO.nil (w : World) (base : Nat) : PO w base (.slice none 0 0) [] := ⟨World.ownsRow_nil _ _ _ _, (fun x h => by cases h), (fun x h => by cases h)⟩
theorem PO.below {w w' : World} {base : Nat} {v : Value} {M : List (Prt × List ByteArray)} (h : PO w base v M) (hb : Below w.heap.size w w') : PO w' base v M := ⟨owns_below h.own hb, fun p hp => (h.dep p hp).below hb, h.off⟩

theorem PO.more {w w1 : World} {base n : Nat} {v v' : Value} {M : List (Prt × List ByteArray)} {x : Prt} {D : List ByteArray} (h : PO w base v M) (hn : M.length = n) (hx : TOwn w base (.slice x.da x.dn x.dc) D) (hoff : ∀ y, x.da = some y → v.ownBlock ≠ some y.block)
    (hg : w.grownBy w1 v.ownBlock) (ho : w1.ownsRow base 67 5 v' (n + 1) ((M.map (·.1)).flatMap pc5 ++ pc5 x)) (hv : v'.ownBlock = v.ownBlock ∨ v'.ownBlock = some w.heap.size) : PO w1 base v' (M ++ [(x, D)]) := by
  have kg := Kp.grown hg
  have all : ∀ z ∈ M ++ [(x, D)], TOwn w base (.slice z.1.da z.1.dn z.1.dc) z.2 ∧ (∀ y, z.1.da = some y → v.ownBlock ≠ some y.block) := by
    intro z hz
    rcases List.mem_append.1 hz with h1 | h1
    · exact ⟨h.dep z h1, h.off z h1⟩
    · rw [List.mem_singleton.1 h1]; exact ⟨hx, hoff⟩
  refine ⟨?_, fun z hz => ?_, fun z hz y hy => ?_⟩
  · rw [List.length_append, hn, List.map_append, List.flatMap_append]
    simpa using ho
  · obtain ⟨h1, h2⟩ := all z hz
    refine owns_kp h1 kg fun k hk hs => ?_
    cases ha : z.1.da with
    | none => rw [ha] at hk; simp [Value.ownBlock] at hk
    | some y =>
      rw [ha, ownBlock_some] at hk
      exact h2 y ha (by rw [hs, ← hk])
  · obtain ⟨h1, h2⟩ := all z hz
    rcases hv with e | e
    · rw [e]; exact h2 y hy
    · rw [e]
      intro he
      rw [hy] at h1
      have := (owns_blk h1).2
      simp only [Option.some.injEq] at he
      omega

/-- The same, but for where what they point at lies. -/
def ReP : List (Prt × List ByteArray) → List (Prt × List ByteArray) → Prop
  | [], [] => True
  | p :: r, q :: t => (∃ x y, q.1 = p.1.re x y) ∧ q.2 = p.2 ∧ ReP r t
  | _, _ => False
theorem reP_len : ∀ {A B : List (Prt × List ByteArray)}, ReP A B → B.length = A.length
  | [], [], _ => rfl
  | p :: r, q :: t, h => by rw [List.length_cons, List.length_cons, reP_len h.2.2]
  | [], q :: t, h => by cases h
  | p :: r, [], h => by cases h
theorem reP_snoc : ∀ {A B : List (Prt × List ByteArray)} {p q : Prt × List ByteArray}, ReP A B → (∃ x y, q.1 = p.1.re x y) → q.2 = p.2 → ReP (A ++ [p]) (B ++ [q])
  | [], [], p, q, _, h1, h2 => ⟨h1, h2, trivial⟩
  | _ :: r, _ :: t, p, q, h, h1, h2 => ⟨h.1, h.2.1, reP_snoc h.2.2 h1 h2⟩
  | [], q :: t, _, _, h, _, _ => by cases h
  | p :: r, [], _, _, h, _, _ => by cases h

/-- What is handed in: each with what it points at. -/
def PIn (w : World) (M : List (Prt × List ByteArray)) : Prop := ∀ p ∈ M, p.2.length = p.1.dn ∧ TAt w p.1.da p.2 ∧ p.1.dn * 16 ≤ 140737488355328
theorem PIn.below {w w' : World} {M : List (Prt × List ByteArray)} (h : PIn w M) (hb : Below w.heap.size w w') : PIn w' M := fun p hp => ⟨(h p hp).1, (h p hp).2.1.below hb, (h p hp).2.2⟩

set_option maxRecDepth 100000 in
set_option maxHeartbeats 2000000 in
theorem copyP (a : Option Addr) (k c : Nat) (M : List (Prt × List ByteArray)) (w : World) (hn : M.length = k) (hl : k * 64 ≤ 140737488355328) (hat : PtAt w a (M.map (·.1))) (hin : PIn w M) :
    Calls Tryz.prog 20 #[.slice a k c] w fun e w' => ∃ ra rc M', e = .returned (.slice ra k rc) ∧ k ≤ rc ∧ PO w' w.heap.size (.slice ra k rc) M' ∧ ReP M M' ∧ Below w.heap.size w w' := by
  obtain ⟨i0, hi, hz0, hz1, hz2⟩ := info_parts info90
  have hmn : (M.map (·.1)).length = k := by rw [List.length_map]; exact hn
  replace hn := hid hn
  replace hmn := hid hmn
  replace hat := hid hat
  replace hin := hid hin
  go_enter Tryz.func20, Tryz.ntmps20
  go_wp2_with fail
  go_loopw [3, 4] (fun v i wr => ∃ (j : Nat) (M' : List (Prt × List ByteArray)), j ≤ k ∧ i = .int .i64 (j : Int) ∧ Hid (PO wr w.heap.size v M' ∧ ReP (M.take j) M') ∧ Below w.heap.size w wr) (fun _ i _ => k - (intOf i).toNat)
  case atStart => exact ⟨0, [], Nat.zero_le _, rfl, hid ⟨PO.nil _ _, trivial⟩, Below.refl _ _⟩
  case round =>
    obtain ⟨j, M', hj, rfl, hown, hb⟩ := hrel
    have hlenM : Hid (M'.length = j) := hid (by rw [reP_len hown.out.2, List.length_take]; have := hn.out; omega)
    obtain ⟨va, vc, e, hvc⟩ := owns_form hown.out.1.own
    subst e
    rw [hlenM.out] at hown hvc ⊢
    by_cases hlt : j < k
    · have hjL : j < (M.map (·.1)).length := by rw [hmn.out]; exact hlt
      have hjM : j < M.length := by rw [hn.out]; exact hlt
      obtain ⟨b, o, e⟩ := hat.out.place (by omega)
      subst e
      have hcj := hid ((hat.out.below hb).range hjL)
      obtain ⟨hd1, hd2, hd3⟩ := (hin.out.below hb) M[j] (List.getElem_mem hjM)
      have hMj : M[j].1 = prtAt (M.map (·.1)) j := by rw [← prtAt_eq hjL]; simp
      rw [hMj] at hd1 hd2 hd3
      have hnext : Hid (M.take (j + 1) = M.take j ++ [(prtAt (M.map (·.1)) j, M[j].2)]) := hid (by rw [take_more hjM, ← hMj])
      generalize M[j].2 = D at *
      generalize prtAt (M.map (·.1)) j = J at *
      replace hMj := hid hMj
      have kC := copypart J D wr hd1 hd3 hd2
      replace hd1 := hid hd1
      replace hd2 := hid hd2
      have hbd : (j + 1) * 64 ≤ 140737488355328 := Nat.le_trans (Nat.mul_le_mul_right _ hlt) hl
      go_wp2_with (refine wpList_load_mid rfl 67 (.tmp 14) rfl b (o + j * 5) rfl (pc5 J) _ hcj.out Tryz.underlying67 rfl (by kernel_rfl) ?_)
      refine kC.mono ?_
      rintro e w1 ⟨x, y, rfl, hy, ho, hb1⟩
      have B1 := bnext hb hb1
      have bl := below_lit w1 (.cells (pc5 (J.re x y)).toArray 67)
      have B2 := bnext B1 bl
      have hJO := hid ((hown.out.1.below hb1).below bl)
      have ho2 : TOwn (w1.alloc (.cells (pc5 (J.re x y)).toArray 67)) w.heap.size (.slice x J.dn y) D := owns_low (ho.below bl) (by have := hb.size; omega)
      have hoff : ∀ z, x = some z → (Value.slice va j vc).ownBlock ≠ some z.block := fun z hz he => by
        subst hz
        have h1 := owns_lt hown.out.1.own he
        have h2 := (owns_blk ho).1
        omega
      have hcat := hid (cat_lit w1 67 (pc5 (J.re x y)) (pc5 (J.re x y)).toArray rfl)
      have hone := hid (pc5_one (J.re x y))
      have hown2' : (w1.alloc (.cells (pc5 (J.re x y)).toArray 67)).ownsRow w.heap.size 67 5 (.slice va j vc) j ((M'.map (·.1)).flatMap pc5) := by
        have := hJO.out.own
        rw [hlenM.out] at this
        exact this
      replace hown2' := hid hown2'
      replace ho2 := hid ho2
      replace hoff := hid hoff
      replace ho := hid ho
      clear hcj
      go_wp2_with (first | (refine wpList_one rfl 23 67 (.tmp 16) rfl (pc5 (J.re x y)).toArray 5 i0 _ Tryz.underlying23 hi hz0 hz1 (by omega) (by omega) rfl rfl ?_) | (at_builtin; refine Hid.out ?_))
      refine wpList_cat _ rfl (.tmp 11) (.tmp 17) 23 rfl w.heap.size 67 i0 _ 5 64 Tryz.underlying23 hi hz0 hz1 hz2 rfl (by omega) _ _ _ rfl hown2'.out (some ⟨w1.heap.size, 0, none⟩) 1 1 (pc5 (J.re x y)) rfl rfl hcat.out hone.out (by unfold maxLen; omega) hbd B2.size ?_
      intro v' w4 ho4 hg4 hv4
      have hJ4 := hid (PO.more hJO.out hlenM.out (x := J.re x y) (D := D) ho2.out hoff.out hg4 ho4 hv4)
      have B4 : Below w.heap.size w w4 := Below.grown B2 hg4 B2.size (fun j hj => (hown2'.out.lt _ hj).1)
      have hre := hid (reP_snoc (p := (J, D)) (q := (J.re x y, D)) hown.out.2 ⟨x, y, rfl⟩ rfl)
      clear ho4 hg4 hv4 hcat
      go_wp2_with fail
      go_roundw
      case rel => exact ⟨j + 1, M' ++ [(J.re x y, D)], by omega, by go_num, hid ⟨hJ4.out, by rw [hnext.out]; exact hre.out⟩, B4⟩
      case measure => simp [intOf]; omega
    · have hje : j = k := by omega
      subst hje
      have hf : M.take j = M := by rw [← hn.out, List.take_length]
      rw [hf] at hown
      replace hf := hid hf
      go_wp2
      go_ret
      exact ⟨va, vc, M', rfl, hvc, hown.out.1, hown.out.2, hb⟩

theorem JO.jat {w : World} {base n c : Nat} {a : Option Addr} {M : List (Job × List Dp)} (h : JO w base (.slice a n c) M) : JAt w a (M.map (·.1)) := owns_cat h.own
theorem PO.pat {w : World} {base n c : Nat} {a : Option Addr} {M : List (Prt × List ByteArray)} (h : PO w base (.slice a n c) M) : PtAt w a (M.map (·.1)) := owns_cat h.own

theorem cor_re (s : Spc) (x : Option Addr) (y : Nat) : cor (s.re x y) = cor s := rfl
theorem cnt_re (p : Spc → Bool) (hp : ∀ s x y, p (s.re x y) = p s) : ∀ (A B : List (Job × List Dp)) (z : Int × Nat), ReJ A B → (B.map (·.1)).foldl (cst p) z = (A.map (·.1)).foldl (cst p) z
  | [], [], z, _ => rfl
  | a :: r, b :: t, z, h => by
    obtain ⟨⟨x, y, h1⟩, _, h2⟩ := h
    simp only [List.map_cons, List.foldl_cons]
    have : cst p z b.1 = cst p z a.1 := by
      rw [h1]
      unfold cst
      have e1 : (a.1.re x y).st = a.1.st := rfl
      have e2 : (a.1.re x y).s = a.1.s.re x y := rfl
      rw [e1, e2, hp, cor_re]
    rw [this]
    exact cnt_re p hp r t _ h2
  | [], _ :: _, _, h => by cases h
  | _ :: _, [], _, h => by cases h
theorem on_re (A : List Acc) (n : ByteArray) (s : Spc) (x : Option Addr) (y : Nat) : onP A n (s.re x y) = onP A n s := rfl
theorem in_re (n : ByteArray) (s : Spc) (x : Option Addr) (y : Nat) : inP n (s.re x y) = inP n s := rfl
theorem cntP_re {p : Spc → Bool} (hp : ∀ s x y, p (s.re x y) = p s) {A B : List (Job × List Dp)} (h : ReJ A B) : cntP p (B.map (·.1)) = cntP p (A.map (·.1)) := cnt_re p hp A B _ h

end Go.Proofs.YtflapjehkgefdaaGreat
