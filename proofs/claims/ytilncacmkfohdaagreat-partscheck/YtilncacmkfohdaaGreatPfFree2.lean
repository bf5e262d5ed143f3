/- Take and Give: what may be changed, copies of cuts, cuts added node by node. -/
import Derived.Test.YtilncacmkfohdaaGreatPfGather
namespace Go.Proofs.YtilncacmkfohdaaGreat.Pf
open Go.RowKit

def wiB (on n : Nat) : Bool := decide (on &&& (4294967295 - gset 4294967295 (fun _ => true) n) = 0)
abbrev mayP (P : List (List Cut)) (on : Nat) (c p q : Int) : Prop := RightPr P ∧ wiB on P.length = true ∧ (0 ≤ c ∧ c ≤ 1073741824) ∧ winP p q
def mayB (P : List (List Cut)) (on : Nat) (c p q : Int) : Bool := decide (mayP P on c p q)
theorem mayB_iff {P : List (List Cut)} {on : Nat} {c p q : Int} : mayB P on c p q = true ↔ mayP P on c p q := by simp only [mayB, decide_eq_true_eq]
theorem mayB_no {P : List (List Cut)} {on : Nat} {c p q : Int} (h : ¬ mayP P on c p q) : mayB P on c p q = false := decide_eq_false h

theorem cutsOf_len (L : List Nd1) : (cutsOf L).length = L.length := by simp [cutsOf]

/-- What becomes of node i. -/
def nodeA (P : List (List Cut)) (on : Nat) (m p q : Int) (i : Nat) : List Cut × Int := if on.testBit i then addA (P.getD i []) p q m else (P.getD i [], 0)
def adA (P : List (List Cut)) (on : Nat) (m p q : Int) : List (List Cut) × Int :=
  match (List.range P.length).find? (fun i => decide ((nodeA P on m p q i).2 ≠ 0)) with
  | some i => ([], (nodeA P on m p q i).2)
  | none => ((List.range P.length).map fun i => (nodeA P on m p q i).1, 0)

def AdTo (P : List (List Cut)) (on : Nat) (m p q : Int) (j : Nat) : Prop := ∀ i, i < j → (nodeA P on m p q i).2 = 0

theorem AdTo.next {P : List (List Cut)} {on : Nat} {m p q : Int} {j : Nat} (h : AdTo P on m p q j) (k : (nodeA P on m p q j).2 = 0) : AdTo P on m p q (j + 1) := by
  intro i hi
  rcases Nat.lt_or_ge i j with h1 | h1
  · exact h i h1
  · have : i = j := by omega
    subst this; exact k

theorem adA_bad {P : List (List Cut)} {on : Nat} {m p q : Int} {j : Nat} (h : AdTo P on m p q j) (hj : j < P.length) (k : (nodeA P on m p q j).2 ≠ 0) : adA P on m p q = ([], (nodeA P on m p q j).2) := by
  have : (List.range P.length).find? (fun i => decide ((nodeA P on m p q i).2 ≠ 0)) = some j := by
    rw [List.find?_range_eq_some]
    refine ⟨by simpa using k, List.mem_range.2 hj, fun i hi => ?_⟩
    have := h i hi
    simp [this]
  unfold adA
  rw [this]

theorem adA_ok {P : List (List Cut)} {on : Nat} {m p q : Int} (h : AdTo P on m p q P.length) : adA P on m p q = ((List.range P.length).map fun i => (nodeA P on m p q i).1, 0) := by
  have : (List.range P.length).find? (fun i => decide ((nodeA P on m p q i).2 ≠ 0)) = none := by
    rw [List.find?_eq_none]
    intro i hi
    have := h i (List.mem_range.1 hi)
    simp [this]
  unfold adA
  rw [this]

theorem cutsOf_get {L : List Nd1} {i : Nat} (h : i < L.length) : (cutsOf L).getD i [] = L[i].C := by simp [cutsOf, List.getD, h]

/-- What is told: a profile and a number. -/
def PTold (R : List (List Cut) × Int) (w : World) (e : Ending) (w' : World) : Prop :=
  ∃ a c L, e = .returned (.tuple #[.slice a R.1.length c, .int .i64 R.2]) ∧ cutsOf L = R.1 ∧ POwn w' w.heap.size (.slice a R.1.length c) L ∧ Below w.heap.size w w'

theorem ptold_nil (w w' : World) (x : Int) (h : Below w.heap.size w w') : PTold ([], x) w (.returned (.tuple #[.slice none 0 0, .int .i64 x])) w' :=
  ⟨none, 0, [], rfl, rfl, POwn.nil _ _, h⟩

/-- 'append(v, y)' onto a profile of the call's own. -/
theorem push_pr (w : World) {ops : Array Oper} {rest : List Oper} {o : Oper} {a : Act} {Q : Exit → Act → World → Prop} (hgd : o.guard = none) (s x : Operand)
    (ho : o.op = .call { callee := .builtin .append, args := #[s, x], argTypes := #[36, 36] }) (base : Nat) (ad : Option Addr) (n k : Nat) (C : List Cut) (hC : C.length = n) (v : Value) (M : List Nd1) (hs : a.eval s = v) (hP : POwn w base v M) (hx : a.eval x = .slice (some ⟨w.heap.size, 0, none⟩) 1 1)
    (hy : SOwn w base (.slice ad n k) C) (hoff : ∀ z, ad = some z → v.ownBlock ≠ some z.block) (hM : M.length ≤ 1099511627776) (hbase : base ≤ w.heap.size)
    (h : ∀ v' w', POwn w' base v' (M ++ [⟨ad, k, C⟩]) → (∀ w0, Below base w0 w → Below base w0 w') → wpList Tryz.prog ops Q rest (a.put o.dst v') w') : wpList Tryz.prog ops Q (o :: rest) a (w.alloc (.cells #[.slice ad n k] 59)) := by
  subst hC
  obtain ⟨i0, hi0, hz0, hz1, hz2⟩ := info_parts info38
  have bl := below_lit w (.cells #[.slice ad C.length k] 59)
  have hP2 := hP.below bl
  have hsz := size_alloc w (.cells #[.slice ad C.length k] 59)
  refine wpList_cat _ hgd s x 36 ho base 59 i0 _ 1 24 Tryz.underlying36 hi0 hz0 hz1 hz2 rfl (by omega) v M.length (M.map Nd1.val) hs hP2.own (some ⟨w.heap.size, 0, none⟩) 1 1 [.slice ad C.length k] hx rfl (cat_lit _ _ _ _ rfl) (slice_one _ _ _) (by unfold maxLen; omega) (by omega) (by omega) ?_
  intro v' w' h1 h2 h3
  refine h v' w' (hP2.more (x := ⟨ad, k, C⟩) (hy.below bl) hoff h2 h1 h3) fun w0 h0 => ?_
  exact (h0.alloc hbase _).grown h2 (by omega) (fun k hk => (hP2.own.lt k hk).1)

theorem range_snoc {α : Type} (f : Nat → α) (j : Nat) : (List.range (j + 1)).map f = (List.range j).map f ++ [f j] := by rw [List.range_succ, List.map_append]; rfl

end Go.Proofs.YtilncacmkfohdaaGreat.Pf

namespace Go.Proofs.YtilncacmkfohdaaGreat.Pf
open Go.RowKit

def takeA (P : List (List Cut)) (on : Nat) (c p q : Int) : List (List Cut) × Int := if mayP P on c p q then adA P on (-c) p q else ([], 2)
def giveA (P : List (List Cut)) (on : Nat) (c p q : Int) : List (List Cut) × Int := if mayP P on c p q then adA P on c p q else ([], 2)

theorem short_of {L : List Nd1} (h : RightPr (cutsOf L)) : ∀ x ∈ L, x.C.length ≤ 4096 := fun x hx => (h.2.2 _ (List.mem_map.2 ⟨x, hx, rfl⟩)).2.1

abbrev coreOk (x : Int) : Prop := 1 ≤ x ∧ x ≤ 64
abbrev newP (Z : List Int) : Prop := 1 ≤ Z.length ∧ Z.length ≤ 32 ∧ ∀ x ∈ Z, coreOk x
def newA (Z : List Int) : List (List Cut) × Int := if newP Z then (Z.map fun c => [(0, c)], 0) else ([], 2)
def NewTo (Z : List Int) (j : Nat) : Prop := ∀ x ∈ Z.take j, coreOk x

theorem NewTo.next {Z : List Int} {j : Nat} (h : NewTo Z j) (hj : j < Z.length) (k : coreOk Z[j]) : NewTo Z (j + 1) := by
  intro x hx
  rw [List.take_add_one, List.getElem?_eq_getElem hj] at hx
  rcases List.mem_append.1 hx with h1 | h1
  · exact h x h1
  · simp at h1; rw [h1]; exact k

set_option maxRecDepth 100000 in
set_option maxHeartbeats 800000 in
theorem new_any (a : Option Addr) (n c0 : Nat) (Z : List Int) (w : World) (hn : Z.length = n) (hl : n ≤ 4611686018427387904) (hat : CAt w a (Z.map Nd.I)) :
    Calls Tryz.prog 7 #[.slice a n c0] w fun e w' => PTold (newA Z) w e w' := by
  replace hn := hid hn
  replace hat := hid hat
  rcases Nat.lt_or_ge n 1 with h0 | h0
  · have hf := hid (show newA Z = ([], 2) from if_neg fun h => by have := h.1; rw [hn.out] at this; omega)
    have d0 : decide ((n : Int) < 1) = true := decide_eq_true (by omega)
    go_enter Tryz.func7, Tryz.ntmps7
    go_wp2
    go_ret2
    rw [hf.out]
    exact ptold_nil _ _ _ (Below.refl _ _)
  · have d0 : decide ((n : Int) < 1) = false := decide_eq_false (by omega)
    rcases Nat.lt_or_ge 32 n with h1 | h1
    · have hf := hid (show newA Z = ([], 2) from if_neg fun h => by have := h.2.1; rw [hn.out] at this; omega)
      have d1 : decide ((32 : Int) < (n : Int)) = true := decide_eq_true (by omega)
      go_enter Tryz.func7, Tryz.ntmps7
      go_wp2
      go_ret2
      rw [hf.out]
      exact ptold_nil _ _ _ (Below.refl _ _)
    · have d1 : decide ((32 : Int) < (n : Int)) = false := decide_eq_false (by omega)
      obtain ⟨b, o, e⟩ := Nd.iat_place hat.out (by intro e; have := hn.out; rw [e] at this; simp at this; omega)
      subst e
      go_enter Tryz.func7, Tryz.ntmps7
      go_wp2_with fail
      go_loopw [4, 18] (fun v i wr => ∃ j : Nat, j ≤ n ∧ i = .int .i64 (j : Int) ∧ (∃ M : List Nd1, M.length = j ∧ Hid (cutsOf M = (Z.take j).map fun c => [(0, c)]) ∧ Hid (POwn wr w.heap.size v M)) ∧ Hid (NewTo Z j) ∧ Below w.heap.size w wr) (fun _ i _ => n - (intOf i).toNat)
      case atStart => exact ⟨0, Nat.zero_le _, rfl, ⟨[], rfl, hid rfl, hid (POwn.nil _ _)⟩, hid (fun x hx => by simp at hx), Below.refl _ _⟩
      case round =>
        obtain ⟨j, hj, rfl, ⟨M, hM, hcM, hv⟩, hok, hb⟩ := hrel
        by_cases hlt : j < n
        · have hjL : j < Z.length := by rw [hn.out]; exact hlt
          have x0 := Nd.iat_cell (hat.out.below hb) j hjL
          have hmem := List.getElem_mem hjL
          by_cases h2 : Z[j] < 1
          · have hf := hid (show newA Z = ([], 2) from if_neg fun h => by have := (h.2.2 _ hmem).1; omega)
            have d2 : decide (Z[j] < 1) = true := decide_eq_true h2
            generalize Z[j] = X at *
            go_wp2
            go_ret2
            rw [hf.out]
            exact ptold_nil _ _ _ hb
          · have d2 : decide (Z[j] < 1) = false := decide_eq_false h2
            by_cases h3 : 64 < Z[j]
            · have hf := hid (show newA Z = ([], 2) from if_neg fun h => by have := (h.2.2 _ hmem).2; omega)
              have d3 : decide (64 < Z[j]) = true := decide_eq_true h3
              generalize Z[j] = X at *
              go_wp2
              go_ret2
              rw [hf.out]
              exact ptold_nil _ _ _ hb
            · have d3 : decide (64 < Z[j]) = false := decide_eq_false h3
              have hok2 := hid (hok.out.next hjL ⟨by omega, by omega⟩)
              have kF := fun w => flat_any Z[j] w
              rw [show flatA Z[j] = ([(0, Z[j])], 0) from if_pos ⟨by omega, by omega⟩] at kF
              have hts := hid (show (Z.take (j + 1)).map (fun c => [((0 : Int), c)]) = (Z.take j).map (fun c => [((0 : Int), c)]) ++ [[(0, Z[j])]] by
                rw [List.take_add_one, List.getElem?_eq_getElem hjL, List.map_append]; rfl)
              have hM32 : M.length ≤ 32 := by omega
              replace hM := hid hM
              clear hmem
              generalize Z[j] = X at *
              go_wp2_with fail
              refine (kF _).mono ?_
              rintro e w1 ⟨ad, k, rfl, hown, hb1⟩
              replace hown := hid hown
              have hb2 := bnext hb hb1
              go_wp2_with (at_builtin; refine Hid.out ?_)
              refine hid ?_
              refine push_pr _ rfl (.tmp 44) (.tmp 46) rfl w.heap.size ad 1 k [(0, X)] rfl _ M rfl (hv.out.below hb1) rfl (hown.out.low hb.size) (new_off hv.out.own hown.out) (by omega) hb2.size ?_
              intro v3 w3 hP3 hB3
              have hb3 := hB3 w hb2
              have hcM2 := hid (show cutsOf (M ++ [⟨ad, k, [(0, X)]⟩]) = (Z.take (j + 1)).map (fun c => [((0 : Int), c)]) by
                rw [hts.out, ← hcM.out]; simp [cutsOf])
              replace hP3 := hid hP3
              go_wp2_with fail
              go_roundw
              case rel => exact ⟨j + 1, by omega, by go_num, ⟨_, by rw [List.length_append, hM.out]; rfl, hcM2, hP3⟩, hok2, hb3⟩
              case measure => simp [intOf]; omega
        · have hje : j = n := by omega
          subst hje
          have hf := hid (show newA Z = (Z.map fun c => [(0, c)], 0) from if_pos ⟨by rw [hn.out]; omega, by rw [hn.out]; omega, fun x hx => hok.out x (by rw [← hn.out, List.take_length]; exact hx)⟩)
          have hcM3 := hcM.out
          rw [← hn.out, List.take_length] at hcM3
          rw [← hcM3] at hf
          clear hcM3
          obtain ⟨ad, c, e, _⟩ := owns_form hv.out.own
          subst e
          go_wp2
          go_ret2
          rw [hf.out]
          refine ⟨ad, c, M, ?_, rfl, ?_, hb⟩
          · show _ = Ending.returned (.tuple #[.slice ad (cutsOf M).length c, .int .i64 0])
            rw [cutsOf_len]
            rfl
          · show POwn _ _ (.slice ad (cutsOf M).length c) M
            rw [cutsOf_len]; exact hv.out

end Go.Proofs.YtilncacmkfohdaaGreat.Pf

namespace Go.Proofs.YtilncacmkfohdaaGreat.Pf
open Go.RowKit

/-- The boxes that Free's closure reads. -/
structure FB (w0 w : World) (g : Nat) (a : Option Addr) (n c0 : Nat) (L : List Nd1) (p q c : Int) : Prop where
  o0 : One w g (.slice a n c0) 36
  o1 : One w (g + 1) (.int .i64 p) 2
  o2 : One w (g + 2) (.int .i64 q) 2
  o3 : One w (g + 3) (.int .i64 c) 3
  at_ : PAt w a L
  bel : Below w0.heap.size w0 w

theorem FB.below {w0 w w' : World} {g : Nat} {a : Option Addr} {n c0 : Nat} {L : List Nd1} {p q c : Int} (h : FB w0 w g a n c0 L p q c) (hb : Below w.heap.size w w') : FB w0 w' g a n c0 L p q c :=
  ⟨h.o0.below hb, h.o1.below hb, h.o2.below hb, h.o3.below hb, h.at_.below hb, bnext h.bel hb⟩

def freeS (P : List (List Cut)) (nodes : Nat) (p q c : Int) : Nat := gset nodes (fun k => decide (c ≤ lsT (P.getD k []) p q (P.getD k []).length)) P.length
def freeA (P : List (List Cut)) (nodes : Nat) (p q c : Int) : Nat × Int := if RightPr P ∧ winP p q then (freeS P nodes p q c, 0) else (0, 2)

end Go.Proofs.YtilncacmkfohdaaGreat.Pf
