/- What was taken, given back; profiles that are the same; whether a profile is big. -/
import Derived.Test.YticlpjpbjgfgmaaAwake
import Derived.Test.YticlpjpbjgfgmaaNdRef2
namespace Go.Proofs.Yticlpjpbjgfgmaa
open Go.RowKit

theorem wiB_iff {on n : Nat} (hon : on < 4294967296) (hn : n ≤ 32) : wiB on n = true ↔ ∀ i, on.testBit i = true → i < n := by
  unfold wiB
  rw [decide_eq_true_eq, Nd.in_all hon (gset_lt _ _ hn)]
  constructor
  · intro h i hi
    have := h i (Nd.bit_lt hon hi) hi
    rw [gset_bit] at this
    simp only [Bool.and_eq_true, decide_eq_true_eq] at this
    exact this.1
  · intro h i hi h1
    rw [gset_bit, show (4294967295 : Nat) = 2 ^ 32 - 1 by decide, Nat.testBit_two_pow_sub_one]
    simp [h i h1, hi]

theorem adA_err {P : List (List Cut)} {on : Nat} {m p q : Int} (h : (adA P on m p q).2 ≠ 0) : (adA P on m p q).1 = [] := by
  unfold adA at *
  split at h
  · rfl
  · exact absurd rfl h

theorem takeA_err {P : List (List Cut)} {on : Nat} {c p q : Int} (h : (takeA P on c p q).2 ≠ 0) : (takeA P on c p q).1 = [] := by
  unfold takeA at *
  split
  · rename_i hm; rw [if_pos hm] at h; exact adA_err h
  · rfl

theorem adA_zero {P : List (List Cut)} {on : Nat} {m p q : Int} (h : (adA P on m p q).2 = 0) : AdTo P on m p q P.length ∧ (adA P on m p q).1 = (List.range P.length).map fun i => (nodeA P on m p q i).1 := by
  have key : AdTo P on m p q P.length := by
    intro i hi
    by_cases hb : ∀ j, j < P.length → (nodeA P on m p q j).2 = 0
    · exact hb i hi
    · exfalso
      have hex : ∃ j, j < P.length ∧ (nodeA P on m p q j).2 ≠ 0 := Classical.byContradiction fun hn => hb fun j hj => Classical.byContradiction fun h1 => hn ⟨j, hj, h1⟩
      have hlt : ∃ j, (j < P.length ∧ (nodeA P on m p q j).2 ≠ 0) ∧ ∀ k, k < j → (nodeA P on m p q k).2 = 0 := by
        obtain ⟨j, hj⟩ := hex
        induction j using Nat.strongRecOn with
        | _ j ih =>
          by_cases hc : ∀ k, k < j → (nodeA P on m p q k).2 = 0
          · exact ⟨j, hj, hc⟩
          · obtain ⟨k, hk⟩ : ∃ k, k < j ∧ (nodeA P on m p q k).2 ≠ 0 := Classical.byContradiction fun hn => hc fun k hk => Classical.byContradiction fun h1 => hn ⟨k, hk, h1⟩
            exact ih k hk.1 ⟨by omega, hk.2⟩
      obtain ⟨j, ⟨h1, h2⟩, h3⟩ := hlt
      rw [adA_bad h3 h1 h2] at h
      exact h2 h
  exact ⟨key, by rw [adA_ok key]⟩

theorem getD_map_range {α : Type} (f : Nat → α) (d : α) (n i : Nat) (h : i < n) : ((List.range n).map f).getD i d = f i := by
  rw [List.getD_eq_getElem?_getD, List.getElem?_map, List.getElem?_range h]; rfl

/-- What Take told, where it told no error. -/
structure TakeOk (P Q : List (List Cut)) (on : Nat) (c p q : Int) : Prop where
  may : mayP P on c p q
  len : Q.length = P.length
  each : ∀ i, i < P.length → on.testBit i = true → addA (P.getD i []) p q (-c) = (Q.getD i [], 0)
  aside : ∀ i, i < P.length → on.testBit i = false → Q.getD i [] = P.getD i []

theorem take_ok {P Q : List (List Cut)} {on : Nat} {c p q : Int} (h : takeA P on c p q = (Q, 0)) : TakeOk P Q on c p q := by
  unfold takeA at h
  split at h
  · rename_i hm
    have h2 := adA_zero (P := P) (on := on) (m := -c) (p := p) (q := q) (by rw [h])
    rw [h] at h2
    obtain ⟨h3, h4⟩ := h2
    have h4' : Q = (List.range P.length).map fun i => (nodeA P on (-c) p q i).1 := h4
    refine ⟨hm, by rw [h4']; simp, fun i hi hb => ?_, fun i hi hb => ?_⟩
    · have := h3 i hi
      rw [h4', getD_map_range _ _ _ _ hi]
      unfold nodeA at this ⊢
      rw [hb, if_pos rfl] at this ⊢
      exact Prod.ext rfl this
    · rw [h4', getD_map_range _ _ _ _ hi]
      unfold nodeA
      rw [hb]; rfl
  · cases h

theorem getD_mem {P : List (List Cut)} {i : Nat} (h : i < P.length) : P.getD i [] ∈ P := by
  rw [List.getD_eq_getElem?_getD, List.getElem?_eq_getElem h]; exact List.getElem_mem h
theorem mem_getD {P : List (List Cut)} {C : List Cut} (h : C ∈ P) : ∃ i, i < P.length ∧ P.getD i [] = C := by
  obtain ⟨i, hi, rfl⟩ := List.getElem_of_mem h
  exact ⟨i, hi, by rw [List.getD_eq_getElem?_getD, List.getElem?_eq_getElem hi]; rfl⟩

theorem TakeOk.right {P Q : List (List Cut)} {on : Nat} {c p q : Int} (h : TakeOk P Q on c p q) : RightPr Q := by
  refine ⟨by rw [h.len]; exact h.may.1.1, by rw [h.len]; exact h.may.1.2.1, fun C hC => ?_⟩
  obtain ⟨i, hi, rfl⟩ := mem_getD hC
  rw [h.len] at hi
  cases hb : on.testBit i
  · rw [h.aside i hi hb]; exact h.may.1.2.2 _ (getD_mem hi)
  · have e := h.each i hi hb
    have := (add_good (C := P.getD i []) (a := p) (b := q) (n := -c) (by rw [e])).2.1
    rw [e] at this; exact this

theorem give_back {P Q : List (List Cut)} {on : Nat} {c p q : Int} (h : TakeOk P Q on c p q) : giveA Q on c p q = (P, 0) := by
  have hm : mayP Q on c p q := ⟨h.right, by rw [h.len]; exact h.may.2.1, h.may.2.2⟩
  have hn : ∀ i, i < P.length → nodeA Q on c p q i = (P.getD i [], 0) := by
    intro i hi
    unfold nodeA
    cases hb : on.testBit i
    · show (Q.getD i [], (0 : Int)) = _
      rw [h.aside i hi hb]
    · have e := h.each i hi hb
      have := (add_good (C := P.getD i []) (a := p) (b := q) (n := -c) (by rw [e])).2.2.2
      rw [e] at this
      simp only [Int.neg_neg] at this
      rw [if_pos rfl]; exact this
  unfold giveA
  rw [if_pos hm, adA_ok (fun i hi => by rw [hn i (by rw [← h.len]; exact hi)])]
  refine Prod.ext ?_ rfl
  show (List.range Q.length).map _ = P
  refine List.ext_getElem? fun i => ?_
  rcases Nat.lt_or_ge i P.length with hi | hi
  · rw [List.getElem?_map, List.getElem?_range (by rw [h.len]; exact hi), Option.map_some, hn i hi, List.getElem?_eq_getElem hi]
    rw [List.getD_eq_getElem?_getD, List.getElem?_eq_getElem hi]; rfl
  · rw [List.getElem?_eq_none hi, List.getElem?_eq_none (by simp [h.len]; exact hi)]

theorem cuts_eq {L M : List Nd1} (h : cutsOf L = cutsOf M) {i : Nat} (hi : i < L.length) (hj : i < M.length) : L[i].C = M[i].C := by
  rw [← cutsOf_get hi, ← cutsOf_get hj, h]

set_option maxRecDepth 100000 in
set_option maxHeartbeats 800000 in
theorem psame_any (a b : Option Addr) (n c d : Nat) (L M : List Nd1) (w : World) (hn : L.length = n) (hl : n ≤ 4611686018427387904) (hs : ∀ x ∈ L, x.C.length ≤ 4611686018427387904) (he : cutsOf L = cutsOf M) (ha : PAt w a L) (hb : PAt w b M) :
    Calls Try.prog 18 #[.slice a n c, .slice b n d] w fun e w' => e = .returned (.bool true) ∧ Below w.heap.size w w' := by
  have hm : M.length = n := by rw [← cutsOf_len, ← he, cutsOf_len]; exact hn
  replace hn := hid hn
  replace hm := hid hm
  replace hs := hid hs
  replace he := hid he
  replace ha := hid ha
  replace hb := hid hb
  go_enter Try.func18, Try.ntmps18
  go_wp2_with fail
  go_loopw [5] (fun i wr => ∃ j : Nat, j ≤ n ∧ i = .int .i64 (j : Int) ∧ Below w.heap.size w wr) (fun i _ => n - (intOf i).toNat)
  case atStart => exact ⟨0, Nat.zero_le _, rfl, Below.refl _ _⟩
  case round =>
    obtain ⟨j, hj, rfl, hbw⟩ := hrel
    by_cases hlt : j < n
    · have hjL : j < L.length := by rw [hn.out]; exact hlt
      have hjM : j < M.length := by rw [hm.out]; exact hlt
      obtain ⟨b1, o1, e⟩ := ha.out.place (by omega)
      subst e
      obtain ⟨b2, o2, e⟩ := hb.out.place (by omega)
      subst e
      have x0 := (ha.out.below hbw).one hjL
      have y0 := (hb.out.below hbw).one hjM
      have hC := cuts_eq he.out hjL hjM
      rw [← hC] at y0
      have kS := same_any L[j].a M[j].a L[j].C.length L[j].c M[j].c L[j].C wr.drew rfl (hs.out _ (List.getElem_mem hjL)) (((ha.out.below hbw).each _ (List.getElem_mem hjL)).below (drew_below _)) (by rw [hC]; exact ((hb.out.below hbw).each _ (List.getElem_mem hjM)).below (drew_below _))
      replace hC := hid hC
      generalize L[j].C.length = ll at *
      generalize L[j].a = la at *
      generalize L[j].c = lc at *
      generalize M[j].a = ma at *
      generalize M[j].c = mc at *
      go_wp2_with fail
      go_region_held (fun w' : World => w'.cell? ⟨b1, o1 + j, none⟩ = some (.slice la ll lc) ∧ w'.cell? ⟨b2, o2 + j, none⟩ = some (.slice ma ll mc))
        (first | exact ⟨stay (bnext (drew_below _) hb4) x0, stay (bnext (drew_below _) hb4) y0⟩ | exact ⟨x0, y0⟩)
        (first | (go_at_call 41; refine kS.mono ?_; rintro e w4 ⟨rfl, hb4⟩))
      all_goals
        have hb5 := bnext hbw (bnext (drew_below _) hb4)
        go_wp2_with fail
        go_roundw
        case rel => exact ⟨j + 1, by omega, by go_num, hb5⟩
        case measure => simp [intOf]; omega
    · have hje : j = n := by omega
      subst hje
      go_wp2
      go_ret
      exact ⟨rfl, hbw⟩

def sumTo (L : List Nd1) (j : Nat) : Nat := ((L.take j).map fun x => x.C.length).sum
theorem sumTo_succ {L : List Nd1} {j : Nat} (h : j < L.length) : sumTo L (j + 1) = sumTo L j + L[j].C.length := by
  unfold sumTo
  rw [List.take_add_one, List.getElem?_eq_getElem h, List.map_append, List.sum_append]
  simp
theorem sumTo_le {L : List Nd1} {B : Nat} (h : ∀ x ∈ L, x.C.length ≤ B) (j : Nat) : sumTo L j ≤ j * B := by
  induction j with
  | zero => simp [sumTo]
  | succ j ih =>
    rcases Nat.lt_or_ge j L.length with h1 | h1
    · rw [sumTo_succ h1]
      have := h _ (List.getElem_mem h1)
      rw [Nat.add_mul]; omega
    · have : sumTo L (j + 1) = sumTo L j := by unfold sumTo; rw [List.take_of_length_le (by omega), List.take_of_length_le (by omega)]
      rw [this, Nat.add_mul]; omega
theorem le_sum {l : List Nat} {x : Nat} (h : x ∈ l) : x ≤ l.sum := by
  induction l with
  | nil => cases h
  | cons y l ih =>
    rcases List.mem_cons.1 h with rfl | h
    · simp
    · have := ih h
      simp only [List.sum_cons]
      omega
theorem mem_sum {L : List Nd1} {x : Nd1} (h : x ∈ L) : x.C.length ≤ sumTo L L.length := by
  unfold sumTo
  rw [List.take_length]
  exact le_sum (List.mem_map.2 ⟨x, h, rfl⟩)

/-- Not big: few slices, and few cuts. -/
def BigIs (L : List Nd1) (w : World) (e : Ending) (w' : World) : Prop := ∃ b, e = .returned (.bool b) ∧ w' = w ∧ (b = false → L.length ≤ 40 ∧ ∀ x ∈ L, x.C.length ≤ 3000)

set_option maxRecDepth 100000 in
set_option maxHeartbeats 800000 in
theorem big_any (a : Option Addr) (n c : Nat) (L : List Nd1) (w : World) (hn : L.length = n) (hl : n ≤ 4611686018427387904) (hs : ∀ x ∈ L, x.C.length ≤ 140737488355328) (hat : PAt w a L) :
    Calls Try.prog 7 #[.slice a n c] w fun e w' => BigIs L w e w' := by
  replace hn := hid hn
  replace hs := hid hs
  replace hat := hid hat
  go_enter Try.func7, Try.ntmps7
  go_wp2_with fail
  go_loopw [3, 4] (fun v i wr => ∃ (j : Nat) (x : Int), j ≤ n ∧ v = .int .i64 x ∧ i = .int .i64 (j : Int) ∧ Hid (n ≤ 40 → x = (sumTo L j : Int)) ∧ wr = w) (fun _ i _ => n - (intOf i).toNat)
  case atStart => exact ⟨0, 0, Nat.zero_le _, rfl, rfl, hid (fun _ => by simp [sumTo]), rfl⟩
  case round =>
    obtain ⟨j, x, hj, rfl, rfl, hx, rfl⟩ := hrel
    by_cases hlt : j < n
    · have hjL : j < L.length := by rw [hn.out]; exact hlt
      obtain ⟨b1, o1, e⟩ := hat.out.place (by omega)
      subst e
      have x0 := hat.out.one hjL
      have hsum := hid (sumTo_succ hjL)
      have hle := hid (sumTo_le hs.out (j + 1))
      generalize L[j].C.length = ll at *
      generalize L[j].a = la at *
      generalize L[j].c = lc at *
      go_wp2_with fail
      go_roundw
      case rel =>
        refine ⟨j + 1, _, by omega, rfl, by go_num, hid (fun h => ?_), trivial⟩
        have h1 := hle.out
        rw [hsum.out] at h1
        have h2 : (j + 1) * 140737488355328 ≤ 41 * 140737488355328 := Nat.mul_le_mul_right _ (by omega)
        rw [hx.out h, hsum.out]
        unfold wrap64
        omega
      case measure => simp [intOf]; omega
    · have hje : j = n := by omega
      subst hje
      by_cases h1 : 3000 < x
      · have d1 : decide (3000 < x) = true := decide_eq_true h1
        go_wp2
        go_ret
        exact ⟨true, rfl, rfl, fun h => by cases h⟩
      · have d1 : decide (3000 < x) = false := decide_eq_false h1
        by_cases h2 : 40 < j
        · have d2 : decide ((40 : Int) < (j : Int)) = true := decide_eq_true (by omega)
          go_wp2
          go_ret
          exact ⟨true, rfl, rfl, fun h => by cases h⟩
        · have d2 : decide ((40 : Int) < (j : Int)) = false := decide_eq_false (by omega)
          have hf := hid (show L.length ≤ 40 ∧ ∀ x ∈ L, x.C.length ≤ 3000 from ⟨by rw [hn.out]; omega, fun y hy => by
            have h3 := mem_sum hy
            have h4 := hx.out (by omega)
            rw [hn.out] at h3
            omega⟩)
          go_wp2
          go_ret
          exact ⟨false, rfl, rfl, fun _ => hf.out⟩

end Go.Proofs.Yticlpjpbjgfgmaa
