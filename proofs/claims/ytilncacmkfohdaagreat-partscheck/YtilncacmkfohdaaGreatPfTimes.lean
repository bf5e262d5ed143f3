/- closedTimes: node by node, the times at which it is not open. -/
import Derived.Test.YtilncacmkfohdaaGreatPfClosed
namespace Go.Proofs.YtilncacmkfohdaaGreat.Pf
open Go.RowKit

/-- A slice of spans: where it lies, its room, its spans. -/
structure Sl1 where
  a : Option Addr
  c : Nat
  L : List Span
def Sl1.val (x : Sl1) : Value := .slice x.a x.L.length x.c

/-- A row of the call's own, of slices of spans of the call's own. -/
structure ROwn (w : World) (base : Nat) (v : Value) (M : List Sl1) : Prop where
  own : w.ownsRow base 69 1 v M.length (M.map Sl1.val)
  inner : ∀ x ∈ M, SpOwn w base (.slice x.a x.L.length x.c) x.L
  off : ∀ x ∈ M, ∀ y, x.a = some y → v.ownBlock ≠ some y.block

theorem ROwn.nil (w : World) (base : Nat) : ROwn w base (.slice none 0 0) [] := ⟨World.ownsRow_nil _ _ _ _, (fun x h => by cases h), (fun x h => by cases h)⟩
theorem ROwn.below {w w' : World} {base : Nat} {v : Value} {M : List Sl1} (h : ROwn w base v M) (hb : Below w.heap.size w w') : ROwn w' base v M := ⟨owns_below h.own hb, fun x hx => (h.inner x hx).below hb, h.off⟩
theorem ROwn.low {w : World} {base base' : Nat} {v : Value} {M : List Sl1} (h : ROwn w base v M) (hb : base' ≤ base) : ROwn w base' v M := ⟨owns_low h.own hb, fun x hx => (h.inner x hx).low hb, h.off⟩

theorem ROwn.more {w w1 : World} {base : Nat} {v v' : Value} {M : List Sl1} {x : Sl1} (h : ROwn w base v M) (hx : SpOwn w base (.slice x.a x.L.length x.c) x.L) (hoff : ∀ y, x.a = some y → v.ownBlock ≠ some y.block)
    (hg : w.grownBy w1 v.ownBlock) (ho : w1.ownsRow base 69 1 v' (M.length + 1) (M.map Sl1.val ++ [x.val])) (hv : v'.ownBlock = v.ownBlock ∨ v'.ownBlock = some w.heap.size) : ROwn w1 base v' (M ++ [x]) := by
  have kg := Kp.grown hg
  have all : ∀ z ∈ M ++ [x], SpOwn w base (.slice z.a z.L.length z.c) z.L ∧ (∀ y, z.a = some y → v.ownBlock ≠ some y.block) := by
    intro z hz
    rcases List.mem_append.1 hz with h1 | h1
    · exact ⟨h.inner z h1, h.off z h1⟩
    · rw [List.mem_singleton.1 h1]; exact ⟨hx, hoff⟩
  refine ⟨?_, fun z hz => ?_, fun z hz y hy => ?_⟩
  · simpa using ho
  · obtain ⟨h1, h2⟩ := all z hz
    refine owns_kp h1 kg fun k hk hs => ?_
    cases ha : z.a with
    | none => rw [ha] at hk; simp [Value.ownBlock] at hk
    | some y =>
      rw [ha, ownBlock_some] at hk
      exact h2 y ha (by rw [hs, ← hk])
  · obtain ⟨h1, h2⟩ := all z hz
    rcases hv with e | e
    · rw [e]; exact h2 y hy
    · rw [e]
      intro he
      rw [hy] at h1
      have := (owns_blk h1).2
      simp only [Option.some.injEq] at he
      omega

theorem info72 : (Tryz.prog.info? 69).map (fun i => (i.zero, i.size, i.bytes)) = some (some (.slice none 0 0), 1, 24) := by kernel_rfl

theorem newsp_off {w w' : World} {base e size n : Nat} {v : Value} {xs : List Value} {a : Option Addr} {m c : Nat} {L : List Span} (h : w.ownsRow base e size v n xs) (hx : SpOwn w' w.heap.size (.slice a m c) L) : ∀ y, a = some y → v.ownBlock ≠ some y.block := by
  intro y hy he
  subst hy
  have h1 := owns_lt h he
  have h2 := (owns_blk hx).1
  omega

/-- 'append(v, y)' onto a row of slices of spans, as a step of a region that draws. -/
theorem step_push {ops : Array Oper} {o : Oper} {a : Act} {w : World} {K : Act → World → Prop} {Q : Exit → Act → World → Prop} {E : Prop} (hg : o.guard = none) (s x : Operand)
    (ho : o.op = .call { callee := .builtin .append, args := #[s, x], argTypes := #[66, 66] }) (base : Nat) (ad : Option Addr) (n k : Nat) (L : List Span) (hL : L.length = n) (v : Value) (M : List Sl1) (hs : a.eval s = v) (hP : ROwn w base v M) (hx : a.eval x = .slice (some ⟨w.heap.size, 0, none⟩) 1 1)
    (hy : SpOwn w base (.slice ad n k) L) (hoff : ∀ z, ad = some z → v.ownBlock ≠ some z.block) (hM : M.length ≤ 1099511627776) (hbase : base ≤ w.heap.size)
    (hK : ∀ v' w', ROwn w' base v' (M ++ [⟨ad, k, L⟩]) → (∀ w0, Below base w0 w → Below base w0 w') → K (a.put o.dst v') w') :
    if Region.wanted o (yielded ops a.tmps) = true then Oper.wp Tryz.prog o a (w.alloc (.cells #[.slice ad n k] 69)) K Q else E := by
  subst hL
  obtain ⟨i0, hi0, hz0, hz1, hz2⟩ := info_parts info72
  have bl := below_lit w (.cells #[.slice ad L.length k] 69)
  have hP2 := hP.below bl
  have hsz := size_alloc w (.cells #[.slice ad L.length k] 69)
  refine step_cat hg s x 66 ho base 69 i0 _ 1 24 Tryz.underlying66 hi0 hz0 hz1 hz2 rfl (by omega) v M.length (M.map Sl1.val) hs hP2.own (some ⟨w.heap.size, 0, none⟩) 1 1 [.slice ad L.length k] hx rfl (cat_lit _ _ _ _ rfl) (slice_one _ _ _) (by unfold maxLen; omega) (by omega) (by omega) ?_
  intro v' w' h1 h2 h3
  refine hK v' w' (hP2.more (x := ⟨ad, k, L⟩) (hy.below bl) hoff h2 h1 h3) fun w0 h0 => ?_
  exact (h0.alloc hbase _).grown h2 (by omega) (fun k hk => (hP2.own.lt k hk).1)

/-- Node by node, the spans in which it is closed. -/
def ClosedOf (L : List Nd1) (A : AskP) (M : List Sl1) : Prop := ∀ i x, M[i]? = some x → JoinOf (rawL ((cutsOf L).getD i []) i A) x.L

theorem closedOf_snoc {L : List Nd1} {A : AskP} {M : List Sl1} {x : Sl1} (h : ClosedOf L A M) (k : JoinOf (rawL ((cutsOf L).getD M.length []) M.length A) x.L) : ClosedOf L A (M ++ [x]) := by
  intro i y hy
  rcases Nat.lt_or_ge i M.length with h1 | h1
  · rw [List.getElem?_append_left h1] at hy
    exact h i y hy
  · rw [List.getElem?_append_right h1] at hy
    have e : i = M.length := by
      rcases Nat.lt_or_ge (i - M.length) 1 with h2 | h2
      · omega
      · rw [List.getElem?_eq_none (by simpa using h2)] at hy; cases hy
    subst e
    simp at hy
    subst hy
    exact k

def TTold (L : List Nd1) (A : AskP) (w : World) (e : Ending) (w' : World) : Prop :=
  ∃ ad k M, e = .returned (.slice ad L.length k) ∧ M.length = L.length ∧ ClosedOf L A M ∧ ROwn w' w.heap.size (.slice ad L.length k) M ∧ Below w.heap.size w w'

set_option maxRecDepth 100000 in
set_option maxHeartbeats 2000000 in
theorem times_any (a : Option Addr) (n c : Nat) (L : List Nd1) (A : AskP) (ba : Option Addr) (bn bc0 : Nat) (w : World) (hn : L.length = n) (hr : RightPr (cutsOf L)) (hat : PAt w a L) (hA : RightAsk A) (hbn : A.bs.length = bn) (hbs : ∀ b ∈ A.bs, b.nodes < 4294967296) (hba : BAt w ba A.bs) :
    Calls Tryz.prog 23 #[.slice a n c, A.val ba bn bc0] w fun e w' => TTold L A w e w' := by
  have hn32 : n ≤ 32 := by have := hr.2.1; rw [cutsOf_len, hn] at this; exact this
  have hn0 : 0 < n := by have := hr.1; rw [cutsOf_len, hn] at this; exact this
  obtain ⟨b, o, e⟩ := hat.place (by omega)
  subst e
  have hask := ABlk.new w A ba bn bc0
  have b0 := below_lit w (.cells (A.cells ba bn bc0) 50)
  rw [show A.val ba bn bc0 = .agg (A.cells ba bn bc0) from rfl]
  replace hn := hid hn
  replace hr := hid hr
  replace hat := hid hat
  replace hA := hid hA
  replace hbn := hid hbn
  replace hbs := hid hbs
  replace hba := hid hba
  replace hask := hid hask
  have hsz := size_alloc w (.cells (A.cells ba bn bc0) 50)
  go_enter Tryz.func23, Tryz.ntmps23
  go_wp2_with fail
  generalize w.alloc (.cells (A.cells ba bn bc0) 50) = wa at *
  go_loopw [5, 9] (fun v i wr => ∃ j : Nat, j ≤ n ∧ i = .int .i64 (j : Int) ∧ (∃ M : List Sl1, M.length = j ∧ Hid (ClosedOf L A M) ∧ Hid (ROwn wr wa.heap.size v M)) ∧ Below wa.heap.size wa wr) (fun _ i _ => n - (intOf i).toNat)
  case atStart => exact ⟨0, Nat.zero_le _, rfl, ⟨[], rfl, hid (fun i x hx => by simp at hx), hid (ROwn.nil _ _)⟩, Below.refl _ _⟩
  case round =>
    obtain ⟨j, hj, rfl, ⟨M, hM, hcM, hv⟩, hba2⟩ := hrel
    have hb := bnext b0 hba2
    by_cases hlt : j < n
    · have hjL : j < L.length := by rw [hn.out]; exact hlt
      have hab := hid (hask.out.below hba2)
      have y0 := (hat.out.below hb).one hjL
      have hrC := hid (hr.out.2.2 L[j].C (List.mem_map.2 ⟨_, List.getElem_mem hjL, rfl⟩))
      have kC := closedof_any L[j].a L[j].C.length L[j].c L[j].C j A ba bn bc0 wr.drew rfl hrC.out (((hat.out.below hb).each _ (List.getElem_mem hjL)).below (drew_below _)) hA.out hbn.out hbs.out (by omega) ((hba.out.below hb).below (drew_below _))
      have hget := hid (cutsOf_get hjL)
      have e0 := hab.out.c0
      have e1 := hab.out.c1
      have e2 := hab.out.c2
      have e3 := hab.out.c3
      have e4 := hab.out.c4
      have e5 := hab.out.c5
      replace hM := hid hM
      have hCC := hid (show L[j].C = (cutsOf L).getD j [] from hget.out.symm)
      unfold AskP.val AskP.cells at kC
      generalize L[j].a = la at *
      generalize L[j].c = lc at *
      generalize L[j].C.length = ll at *
      generalize L[j].C = lC at *
      go_wp2_with fail
      go_region_law (first
        | (refine step_call rfl 48 _ _ rfl Tryz.f48 Tryz.func48 (by kernel_rfl) (by kernel_rfl) #[.slice la ll lc, .int .i64 (j : Int), .agg #[.int .i64 A.count, .int .i64 A.cores, .int .i64 A.limit, .int .i64 A.fr, .int .u32 (A.nodes : Int), .slice ba bn bc0]] (by simp [Act.eval]) kC ?_; rintro e w4 ⟨ad, k, T, rfl, hJ, hO4, hb4⟩; refine ⟨_, rfl, ?_⟩)
        | (refine step_push rfl (.tmp 12) (.tmp 20) rfl wa.heap.size ad _ k T rfl _ M rfl (hv.out.below (bnext (drew_below _) hb4)) rfl (hO4.low (bnext hba2 (drew_below _)).size) (newsp_off (hv.out.below (drew_below _)).own hO4) (by have := hM.out; omega) (bnext hba2 (bnext (drew_below _) hb4)).size ?_; intro v6 w6 hP6 hB6))
      all_goals
        have hb6 := hB6 wa (bnext hba2 (bnext (drew_below _) hb4))
        have hcM6 := hid (closedOf_snoc (x := ⟨ad, k, T⟩) hcM.out (by rw [hM.out, ← hCC.out]; exact hJ))
        replace hP6 := hid hP6
        clear hJ hO4 hB6 hb4
        go_wp2_with fail
        go_roundw
        case rel => exact ⟨j + 1, by omega, by go_num, ⟨_, by rw [List.length_append, hM.out]; rfl, hcM6, hP6⟩, hb6⟩
        case measure => simp [intOf]; omega
    · have hje : j = n := by omega
      subst hje
      obtain ⟨ad, k, e, _⟩ := owns_form hv.out.own
      rw [hM] at e
      subst e
      go_wp2
      go_ret
      refine ⟨ad, k, M, ?_, by rw [hn.out]; exact hM, hcM.out, ?_, hb⟩
      · rw [hn.out]; rfl
      · rw [hn.out]; exact hv.out.low (by omega)

end Go.Proofs.YtilncacmkfohdaaGreat.Pf
