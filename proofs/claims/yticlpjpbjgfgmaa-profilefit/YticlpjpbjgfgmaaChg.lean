/- Take and Give: what may be changed, copies of cuts, cuts added node by node. -/
import Derived.Test.YticlpjpbjgfgmaaGather
namespace Go.Proofs.Yticlpjpbjgfgmaa
open Go.RowKit

def wiB (on n : Nat) : Bool := decide (on &&& (4294967295 - gset 4294967295 (fun _ => true) n) = 0)
abbrev mayP (P : List (List Cut)) (on : Nat) (c p q : Int) : Prop := RightPr P ∧ wiB on P.length = true ∧ (0 ≤ c ∧ c ≤ 1073741824) ∧ winP p q
def mayB (P : List (List Cut)) (on : Nat) (c p q : Int) : Bool := decide (mayP P on c p q)
theorem mayB_iff {P : List (List Cut)} {on : Nat} {c p q : Int} : mayB P on c p q = true ↔ mayP P on c p q := by simp only [mayB, decide_eq_true_eq]
theorem mayB_no {P : List (List Cut)} {on : Nat} {c p q : Int} (h : ¬ mayP P on c p q) : mayB P on c p q = false := decide_eq_false h

theorem cutsOf_len (L : List Nd1) : (cutsOf L).length = L.length := by simp [cutsOf]

set_option maxHeartbeats 800000 in
theorem may_any (a : Option Addr) (n c0 : Nat) (L : List Nd1) (on : Nat) (c p q : Int) (w : World) (hn : L.length = n) (hl : n ≤ 4611686018427387904) (hs : ∀ x ∈ L, x.C.length ≤ 4611686018427387904) (hon : on < 4294967296) (hat : PAt w a L) :
    Calls Try.prog 37 #[.slice a n c0, .int .u32 (on : Int), .int .i64 c, .int .i64 p, .int .i64 q] w fun e w' => e = .returned (.bool (mayB (cutsOf L) on c p q)) ∧ Below w.heap.size w w' := by
  have kR := pright_any a n c0 L w hn hl hs hat
  have hcl := cutsOf_len L
  rw [hn] at hcl
  clear hs hat
  replace hn := hid hn
  by_cases h1 : RightPr (cutsOf L)
  · rw [rightPB_iff.2 h1] at kR
    have hn32 : n ≤ 32 := by have := h1.2.1; rw [hcl] at this; exact this
    have kA := fun w => all_any n hn32 w
    have hal := gset_lt 4294967295 (fun _ => true) hn32
    have kW := fun w => Nd.within_any on (gset 4294967295 (fun _ => true) n) hon hal w
    have kwi : decide (on &&& (4294967295 - gset 4294967295 (fun _ => true) n) = 0) = wiB on n := rfl
    rw [kwi] at kW
    have kN := fun w => pwindow_any p q w
    have hB : mayB (cutsOf L) on c p q = (wiB on n && (decide (0 ≤ c) && (decide (c ≤ 1073741824) && winB p q))) := by
      cases hb : (wiB on n && (decide (0 ≤ c) && (decide (c ≤ 1073741824) && winB p q)))
      · refine mayB_no fun h => ?_
        obtain ⟨_, k2, k3, k4⟩ := h
        rw [hcl] at k2
        rw [k2, decide_eq_true k3.1, decide_eq_true k3.2, winB_iff.2 k4] at hb
        cases hb
      · refine mayB_iff.2 ⟨h1, ?_⟩
        simp only [Bool.and_eq_true, decide_eq_true_eq] at hb
        rw [hcl]
        exact ⟨hb.1, ⟨hb.2.1, hb.2.2.1⟩, winB_iff.1 hb.2.2.2⟩
    replace hB := hid hB
    replace hcl := hid hcl
    replace h1 := hid h1
    clear kwi hal
    generalize gset 4294967295 (fun _ => true) n = S at *
    cases hw : wiB on n
    · rw [hw] at kW hB
      go_enter Try.func37, Try.ntmps37
      go_wp2_with fail
      refine kR.mono ?_
      rintro e w1 ⟨rfl, hb1⟩
      go_wp2_with fail
      refine (kA _).mono ?_
      rintro e w2 ⟨rfl, rfl⟩
      go_wp2_with fail
      refine (kW _).mono ?_
      rintro e w3 ⟨rfl, rfl⟩
      go_wp2
      go_ret
      rw [hB.out]; exact ⟨rfl, hb1⟩
    · rw [hw] at kW hB
      by_cases h2 : 0 ≤ c
      · have d2 : decide (0 ≤ c) = true := decide_eq_true h2
        rw [d2] at hB
        by_cases h3 : c ≤ 1073741824
        · have d3 : decide (c ≤ 1073741824) = true := decide_eq_true h3
          rw [d3] at hB
          simp only [Bool.true_and] at hB
          go_enter Try.func37, Try.ntmps37
          go_wp2_with fail
          refine kR.mono ?_
          rintro e w1 ⟨rfl, hb1⟩
          go_wp2_with fail
          refine (kA _).mono ?_
          rintro e w2 ⟨rfl, rfl⟩
          go_wp2_with fail
          refine (kW _).mono ?_
          rintro e w3 ⟨rfl, rfl⟩
          go_wp2_with fail
          refine (kN _).mono ?_
          rintro e w4 ⟨rfl, rfl⟩
          go_wp2
          go_ret
          rw [hB.out]; exact ⟨rfl, hb1⟩
        · have d3 : decide (c ≤ 1073741824) = false := decide_eq_false h3
          rw [d3] at hB
          go_enter Try.func37, Try.ntmps37
          go_wp2_with fail
          refine kR.mono ?_
          rintro e w1 ⟨rfl, hb1⟩
          go_wp2_with fail
          refine (kA _).mono ?_
          rintro e w2 ⟨rfl, rfl⟩
          go_wp2_with fail
          refine (kW _).mono ?_
          rintro e w3 ⟨rfl, rfl⟩
          go_wp2
          go_ret
          rw [hB.out]; exact ⟨rfl, hb1⟩
      · have d2 : decide (0 ≤ c) = false := decide_eq_false h2
        rw [d2] at hB
        go_enter Try.func37, Try.ntmps37
        go_wp2_with fail
        refine kR.mono ?_
        rintro e w1 ⟨rfl, hb1⟩
        go_wp2_with fail
        refine (kA _).mono ?_
        rintro e w2 ⟨rfl, rfl⟩
        go_wp2_with fail
        refine (kW _).mono ?_
        rintro e w3 ⟨rfl, rfl⟩
        go_wp2
        go_ret
        rw [hB.out]; exact ⟨rfl, hb1⟩
  · have hB := hid (mayB_no (on := on) (c := c) (p := p) (q := q) fun h => h1 h.1)
    rw [rightPB_no h1] at kR
    replace hcl := hid hcl
    replace h1 := hid h1
    go_enter Try.func37, Try.ntmps37
    go_wp2_with fail
    refine kR.mono ?_
    rintro e w1 ⟨rfl, hb1⟩
    go_wp2
    go_ret
    rw [hB.out]; exact ⟨rfl, hb1⟩

set_option maxHeartbeats 400000 in
set_option maxRecDepth 100000 in
theorem clone_any (a : Option Addr) (n c : Nat) (C : List Cut) (w : World) (hn : C.length = n) (hl : n * 16 ≤ 140737488355328) (hat : SAt w a C) :
    Calls Try.prog 65 #[.slice a n c] w fun e w' => ∃ ad k, e = .returned (.slice ad n k) ∧ SOwn w' w.heap.size (.slice ad n k) C ∧ Below w.heap.size w w' := by
  obtain ⟨i0, hi0, hz0, hz1, hz2⟩ := info_parts info36
  cases a with
  | none =>
    have hC : C = [] := by
      cases C with
      | nil => rfl
      | cons x r => obtain ⟨b, o, e, _⟩ := hat (by simp [cc]); cases e
    subst hC
    simp at hn
    subst hn
    have hq := fun w => Lib.run_eql_slice_nil (P := Try.prog) w 38 40 none 0 c 0 0 Try.underlying38
    go_enter Try.func65, Try.ntmps65
    go_wp2
    go_ret
    exact ⟨_, _, rfl, SOwn.nil _ _, Below.refl _ _⟩
  | some x =>
    replace hn := hid hn
    have bl := below_lit w (.cells #[] 40)
    have hv2 : SOwn (w.alloc (.cells #[] 40)) w.heap.size (.slice (some ⟨w.heap.size, 0, none⟩) 0 0) [] :=
      ⟨rfl, .inr ⟨w.heap.size, 0, #[], rfl, Nat.le_refl _, heap_alloc_new w _, Nat.le_refl _, by unfold maxLen; omega, rfl, rfl⟩⟩
    have hat2 := hat.below bl
    have h16 : n ≤ 8796093022208 := by omega
    clear hat
    have hq := fun w => Lib.run_eql_slice_nil (P := Try.prog) w 38 40 (some x) n c 0 0 Try.underlying38
    go_enter Try.func65, Try.ntmps65
    go_wp2_with (at_builtin; refine Hid.out ?_)
    refine wpList_cat _ rfl (.tmp 5) (.tmp 6) 38 rfl w.heap.size 40 i0 _ 2 16 Try.underlying38 hi0 hz0 hz1 hz2 rfl (by omega) _ _ _ rfl hv2 (some x) n c (C.flatMap cc) rfl (by rw [cc_len, hn.out]) hat2 (cc_one C) (by rw [List.length_nil]; unfold maxLen; omega) (by rw [List.length_nil]; omega) (by rw [size_alloc]; omega) ?_
    intro v3 w3 hr3 hg3 hv3
    have B1 := bl.grown hg3 bl.size (fun k hk => (hv2.lt k hk).1)
    obtain ⟨ad, k, rfl, _⟩ := owns_form hr3
    go_wp2
    go_ret
    exact ⟨_, _, rfl, by unfold SOwn; rw [hn.out]; simpa using hr3, B1⟩

/-- What becomes of node i. -/
def nodeA (P : List (List Cut)) (on : Nat) (m p q : Int) (i : Nat) : List Cut × Int := if on.testBit i then addA (P.getD i []) p q m else (P.getD i [], 0)
def adA (P : List (List Cut)) (on : Nat) (m p q : Int) : List (List Cut) × Int :=
  match (List.range P.length).find? (fun i => decide ((nodeA P on m p q i).2 ≠ 0)) with
  | some i => ([], (nodeA P on m p q i).2)
  | none => ((List.range P.length).map fun i => (nodeA P on m p q i).1, 0)

def AdTo (P : List (List Cut)) (on : Nat) (m p q : Int) (j : Nat) : Prop := ∀ i, i < j → (nodeA P on m p q i).2 = 0

theorem AdTo.next {P : List (List Cut)} {on : Nat} {m p q : Int} {j : Nat} (h : AdTo P on m p q j) (k : (nodeA P on m p q j).2 = 0) : AdTo P on m p q (j + 1) := by
  intro i hi
  rcases Nat.lt_or_ge i j with h1 | h1
  · exact h i h1
  · have : i = j := by omega
    subst this; exact k

theorem adA_bad {P : List (List Cut)} {on : Nat} {m p q : Int} {j : Nat} (h : AdTo P on m p q j) (hj : j < P.length) (k : (nodeA P on m p q j).2 ≠ 0) : adA P on m p q = ([], (nodeA P on m p q j).2) := by
  have : (List.range P.length).find? (fun i => decide ((nodeA P on m p q i).2 ≠ 0)) = some j := by
    rw [List.find?_range_eq_some]
    refine ⟨by simpa using k, List.mem_range.2 hj, fun i hi => ?_⟩
    have := h i hi
    simp [this]
  unfold adA
  rw [this]

theorem adA_ok {P : List (List Cut)} {on : Nat} {m p q : Int} (h : AdTo P on m p q P.length) : adA P on m p q = ((List.range P.length).map fun i => (nodeA P on m p q i).1, 0) := by
  have : (List.range P.length).find? (fun i => decide ((nodeA P on m p q i).2 ≠ 0)) = none := by
    rw [List.find?_eq_none]
    intro i hi
    have := h i (List.mem_range.1 hi)
    simp [this]
  unfold adA
  rw [this]

theorem cutsOf_get {L : List Nd1} {i : Nat} (h : i < L.length) : (cutsOf L).getD i [] = L[i].C := by simp [cutsOf, List.getD, h]

/-- What is told: a profile and a number. -/
def PTold (R : List (List Cut) × Int) (w : World) (e : Ending) (w' : World) : Prop :=
  ∃ a c L, e = .returned (.tuple #[.slice a R.1.length c, .int .i64 R.2]) ∧ cutsOf L = R.1 ∧ POwn w' w.heap.size (.slice a R.1.length c) L ∧ Below w.heap.size w w'

theorem ptold_nil (w w' : World) (x : Int) (h : Below w.heap.size w w') : PTold ([], x) w (.returned (.tuple #[.slice none 0 0, .int .i64 x])) w' :=
  ⟨none, 0, [], rfl, rfl, POwn.nil _ _, h⟩

/-- 'append(v, y)' onto a profile of the call's own. -/
theorem push_pr (w : World) {ops : Array Oper} {rest : List Oper} {o : Oper} {a : Act} {Q : Exit → Act → World → Prop} (hgd : o.guard = none) (s x : Operand)
    (ho : o.op = .call { callee := .builtin .append, args := #[s, x], argTypes := #[23, 23] }) (base : Nat) (ad : Option Addr) (n k : Nat) (C : List Cut) (hC : C.length = n) (v : Value) (M : List Nd1) (hs : a.eval s = v) (hP : POwn w base v M) (hx : a.eval x = .slice (some ⟨w.heap.size, 0, none⟩) 1 1)
    (hy : SOwn w base (.slice ad n k) C) (hoff : ∀ z, ad = some z → v.ownBlock ≠ some z.block) (hM : M.length ≤ 1099511627776) (hbase : base ≤ w.heap.size)
    (h : ∀ v' w', POwn w' base v' (M ++ [⟨ad, k, C⟩]) → (∀ w0, Below base w0 w → Below base w0 w') → wpList Try.prog ops Q rest (a.put o.dst v') w') : wpList Try.prog ops Q (o :: rest) a (w.alloc (.cells #[.slice ad n k] 38)) := by
  subst hC
  obtain ⟨i0, hi0, hz0, hz1, hz2⟩ := info_parts info38
  have bl := below_lit w (.cells #[.slice ad C.length k] 38)
  have hP2 := hP.below bl
  have hsz := size_alloc w (.cells #[.slice ad C.length k] 38)
  refine wpList_cat _ hgd s x 23 ho base 38 i0 _ 1 24 Try.underlying23 hi0 hz0 hz1 hz2 rfl (by omega) v M.length (M.map Nd1.val) hs hP2.own (some ⟨w.heap.size, 0, none⟩) 1 1 [.slice ad C.length k] hx rfl (cat_lit _ _ _ _ rfl) (slice_one _ _ _) (by unfold maxLen; omega) (by omega) (by omega) ?_
  intro v' w' h1 h2 h3
  refine h v' w' (hP2.more (x := ⟨ad, k, C⟩) (hy.below bl) hoff h2 h1 h3) fun w0 h0 => ?_
  exact (h0.alloc hbase _).grown h2 (by omega) (fun k hk => (hP2.own.lt k hk).1)

theorem range_snoc {α : Type} (f : Nat → α) (j : Nat) : (List.range (j + 1)).map f = (List.range j).map f ++ [f j] := by rw [List.range_succ, List.map_append]; rfl

set_option maxRecDepth 100000 in
set_option maxHeartbeats 1000000 in
theorem added_any (a : Option Addr) (n c0 : Nat) (L : List Nd1) (on : Nat) (m p q : Int) (w : World) (hn : L.length = n) (hl : n ≤ 32) (hs : ∀ x ∈ L, x.C.length ≤ 4096) (hon : on < 4294967296) (hat : PAt w a L) :
    Calls Try.prog 38 #[.slice a n c0, .int .u32 (on : Int), .int .i64 m, .int .i64 p, .int .i64 q] w fun e w' => PTold (adA (cutsOf L) on m p q) w e w' := by
  obtain ⟨i0, hi0, hz0, hz1, hz2⟩ := info_parts info38
  have hcl := cutsOf_len L
  rw [hn] at hcl
  replace hn := hid hn
  replace hat := hid hat
  replace hs := hid hs
  replace hcl := hid hcl
  go_enter Try.func38, Try.ntmps38
  go_wp2_with fail
  go_loopw [12, 18] (fun v i wr => ∃ j : Nat, j ≤ n ∧ i = .int .i64 (j : Int) ∧ (∃ M : List Nd1, M.length = j ∧ Hid (cutsOf M = (List.range j).map fun i => (nodeA (cutsOf L) on m p q i).1) ∧ Hid (POwn wr w.heap.size v M)) ∧ Hid (AdTo (cutsOf L) on m p q j) ∧ Below w.heap.size w wr) (fun _ i _ => n - (intOf i).toNat)
  case atStart => exact ⟨0, Nat.zero_le _, rfl, ⟨[], rfl, hid rfl, hid (POwn.nil _ _)⟩, hid (fun i hi => absurd hi (by omega)), Below.refl _ _⟩
  case round =>
    obtain ⟨j, hj, rfl, ⟨M, hM, hcM, hv⟩, hok, hb⟩ := hrel
    by_cases hlt : j < n
    · have hjL : j < L.length := by rw [hn.out]; exact hlt
      obtain ⟨b, o, e⟩ := hat.out.place (by omega)
      subst e
      have y0 := (hat.out.below hb).one hjL
      have hsat := hid ((hat.out.below hb).each _ (List.getElem_mem hjL))
      have hcj := hs.out _ (List.getElem_mem hjL)
      have kC := clone_any L[j].a L[j].C.length L[j].c L[j].C wr rfl (by omega) hsat.out
      have kA := fun w' (h : Below wr.heap.size wr w') => add_any L[j].a L[j].C.length L[j].c L[j].C p q m w' rfl (by omega) (hsat.out.below h)
      have hget := hid (cutsOf_get hjL)
      have hj32 : j < 32 := by omega
      have hM32 : M.length ≤ 32 := by omega
      replace hM := hid hM
      cases hbit : on.testBit j
      · have hnA := hid (show nodeA (cutsOf L) on m p q j = (L[j].C, 0) by unfold nodeA; rw [hbit, hget.out]; rfl)
        have hok2 := hid (hok.out.next (by rw [hnA.out]))
        generalize hLa : L[j].a = la at *
        generalize hLc : L[j].c = lc at *
        generalize hLC : L[j].C = lC at *
        replace hLa := hid hLa
        replace hLc := hid hLc
        replace hLC := hid hLC
        generalize hll : lC.length = ll at *
        replace hll := hid hll
        go_wp2_with fail
        refine kC.mono ?_
        rintro e w1 ⟨ad, k, rfl, hown, hb1⟩
        replace hown := hid hown
        have hb2 := bnext hb hb1
        go_wp2_with fail
        refine (phas_any on j hon hj32 _).mono ?_
        rintro e w2 ⟨rfl, rfl⟩
        rw [hbit]
        go_wp2_with (at_builtin; refine Hid.out ?_)
        refine hid ?_
        refine push_pr _ rfl (.tmp 43) (.tmp 45) rfl w.heap.size ad ll k lC hll.out _ M rfl (hv.out.below hb1) rfl (hown.out.low hb.size) (new_off hv.out.own hown.out) (by omega) hb2.size ?_
        intro v3 w3 hP3 hB3
        have hb3 := hB3 w hb2
        have hcM2 := hid (show cutsOf (M ++ [⟨ad, k, lC⟩]) = (List.range (j + 1)).map fun i => (nodeA (cutsOf L) on m p q i).1 by
          rw [range_snoc, ← hcM.out, hnA.out]; simp [cutsOf])
        replace hP3 := hid hP3
        go_wp2_with fail
        go_roundw
        case rel => exact ⟨j + 1, by omega, by go_num, ⟨_, by rw [List.length_append, hM.out]; rfl, hcM2, hP3⟩, hok2, hb3⟩
        case measure => simp [intOf]; omega
      · have hnA := hid (show nodeA (cutsOf L) on m p q j = addA L[j].C p q m by unfold nodeA; rw [hbit, hget.out]; rfl)
        by_cases he : (addA L[j].C p q m).2 = 0
        · have hok2 := hid (hok.out.next (by rw [hnA.out]; exact he))
          rw [he] at kA
          generalize hLa : L[j].a = la at *
          generalize hLc : L[j].c = lc at *
          generalize hLC : L[j].C = lC at *
          replace hLa := hid hLa
          replace hLc := hid hLc
          replace hLC := hid hLC
          generalize hll : lC.length = ll at *
          replace hll := hid hll
          replace he := hid he
          generalize hrr : (addA lC p q m).1 = rr at *
          replace hrr := hid hrr
          generalize hrl : rr.length = rl at *
          replace hrl := hid hrl
          go_wp2_with fail
          refine kC.mono ?_
          rintro e w1 ⟨ad, k, rfl, hown, hb1⟩
          replace hown := hid hown
          have hb2 := bnext hb hb1
          go_wp2_with fail
          refine (phas_any on j hon hj32 _).mono ?_
          rintro e w2 ⟨rfl, rfl⟩
          rw [hbit]
          have y1 := stay hb1 y0
          go_wp2_with fail
          refine (kA _ hb1).mono ?_
          rintro e w3 ⟨ad3, k3, rfl, hown3, hb3⟩
          replace hown3 := hid hown3
          have hb4 := bnext hb1 hb3
          have hb5 := bnext hb hb4
          go_wp2_with (at_builtin; refine Hid.out ?_)
          refine hid ?_
          refine push_pr _ rfl (.tmp 43) (.tmp 45) rfl w.heap.size ad3 rl k3 rr hrl.out _ M rfl (hv.out.below hb4) rfl (hown3.out.low hb2.size) (new_off (hv.out.below hb1).own hown3.out) (by omega) hb5.size ?_
          intro v6 w6 hP6 hB6
          have hb6 := hB6 w hb5
          have hcM2 := hid (show cutsOf (M ++ [⟨ad3, k3, rr⟩]) = (List.range (j + 1)).map fun i => (nodeA (cutsOf L) on m p q i).1 by
            rw [range_snoc, ← hcM.out, hnA.out, hrr.out]; simp [cutsOf])
          replace hP6 := hid hP6
          go_wp2_with fail
          go_roundw
          case rel => exact ⟨j + 1, by omega, by go_num, ⟨_, by rw [List.length_append, hM.out]; rfl, hcM2, hP6⟩, hok2, hb6⟩
          case measure => simp [intOf]; omega
        · have hf := hid (adA_bad hok.out (by rw [hcl.out]; exact hlt) (by rw [hnA.out]; exact he))
          have hd : ((addA L[j].C p q m).2 != 0) = true := by simpa using he
          rw [hnA.out] at hf
          generalize hLa : L[j].a = la at *
          generalize hLc : L[j].c = lc at *
          generalize hLC : L[j].C = lC at *
          replace hLa := hid hLa
          replace hLc := hid hLc
          replace hLC := hid hLC
          generalize hll : lC.length = ll at *
          replace hll := hid hll
          replace he := hid he
          generalize (addA lC p q m).1.length = rl at *
          generalize (addA lC p q m).2 = re at *
          go_wp2_with fail
          refine kC.mono ?_
          rintro e w1 ⟨ad, k, rfl, hown, hb1⟩
          replace hown := hid hown
          have hb2 := bnext hb hb1
          go_wp2_with fail
          refine (phas_any on j hon hj32 _).mono ?_
          rintro e w2 ⟨rfl, rfl⟩
          rw [hbit]
          have y1 := stay hb1 y0
          go_wp2_with fail
          refine (kA _ hb1).mono ?_
          rintro e w3 ⟨ad3, k3, rfl, hown3, hb3⟩
          replace hown3 := hid hown3
          have hb5 := bnext hb2 hb3
          go_wp2
          go_ret2
          rw [hf.out]
          exact ptold_nil _ _ _ hb5
    · have hje : j = n := by omega
      subst hje
      have hf := hid (adA_ok (P := cutsOf L) (on := on) (m := m) (p := p) (q := q) (by rw [hcl.out]; exact hok.out))
      rw [hcl.out, ← hcM.out] at hf
      obtain ⟨ad, c, e, _⟩ := owns_form hv.out.own
      subst e
      go_wp2
      go_ret2
      rw [hf.out]
      refine ⟨ad, c, M, ?_, rfl, ?_, hb⟩
      · show _ = Ending.returned (.tuple #[.slice ad (cutsOf M).length c, .int .i64 0])
        rw [cutsOf_len]
        rfl
      · show POwn _ _ (.slice ad (cutsOf M).length c) M
        rw [cutsOf_len]; exact hv.out

end Go.Proofs.Yticlpjpbjgfgmaa
