/- Texts of indexes, plain: what Parse reads, what Print tells. -/
import Derived.Lib.Join
import Derived.Lib.ItoaNum
namespace Go.Proofs.YtomdghodbkhkaaaGreatDoor
set_option linter.unusedVariables false
set_option linter.unusedSimpArgs false

/-- The number that digits tell, from n on. -/
def numAcc : List UInt8 → Nat → Option Nat
  | [], n => some n
  | b :: t, n => if 48 ≤ b.toNat ∧ b.toNat ≤ 57 then numAcc t (n * 10 + (b.toNat - 48)) else none
def numP (l : List UInt8) : Option Nat := if l = [] ∨ 4 < l.length ∨ (l.head? = some 48 ∧ l ≠ [48]) then none else numAcc l 0
/-- What is ahead of the first c, what is behind it, and whether there is one. -/
def cutB (c : UInt8) : List UInt8 → List UInt8 × List UInt8 × Bool
  | [] => ([], [], false)
  | b :: t => if b = c then ([], t, true) else (b :: (cutB c t).1, (cutB c t).2.1, (cutB c t).2.2)
/-- What stands between the c's. -/
def pcs (c : UInt8) : List UInt8 → List (List UInt8)
  | [] => [[]]
  | b :: t => if b = c then [] :: pcs c t else match pcs c t with | p :: ps => (b :: p) :: ps | [] => [[b]]

theorem pcs_ne (c : UInt8) (l : List UInt8) : pcs c l ≠ [] := by
  cases l with
  | nil => simp [pcs]
  | cons b t => unfold pcs; split; simp; split <;> simp

theorem pcs_cut (c : UInt8) (l : List UInt8) : pcs c l = if (cutB c l).2.2 then (cutB c l).1 :: pcs c (cutB c l).2.1 else [(cutB c l).1] := by
  induction l with
  | nil => rfl
  | cons b t ih =>
    by_cases h : b = c
    · subst h; simp [pcs, cutB]
    · simp only [pcs, cutB, if_neg h]
      rw [ih]
      split
      · rename_i p ps e
        split at e
        · rename_i h2; rw [if_pos h2]; cases e; rfl
        · rename_i h2; rw [if_neg h2]; cases e; rfl
      · rename_i e
        split at e <;> cases e

theorem cut_plain (c : UInt8) (x : List UInt8) (h : c ∉ x) : cutB c x = (x, [], false) := by
  induction x with
  | nil => rfl
  | cons b t ih =>
    have h1 : b ≠ c := fun e => h (by simp [e])
    have h2 := ih fun e => h (by simp [e])
    simp [cutB, h1, h2]
theorem cut_more (c : UInt8) (x y : List UInt8) (h : c ∉ x) : cutB c (x ++ c :: y) = (x, y, true) := by
  induction x with
  | nil => simp [cutB]
  | cons b t ih =>
    have h1 : b ≠ c := fun e => h (by simp [e])
    have h2 := ih fun e => h (by simp [e])
    simp [cutB, h1, h2]
theorem cut_len (c : UInt8) (l : List UInt8) : (cutB c l).1.length ≤ l.length ∧ (cutB c l).2.1.length ≤ l.length := by
  induction l with
  | nil => simp [cutB]
  | cons b t ih =>
    by_cases h : b = c
    · subst h; simp [cutB]
    · simp only [cutB, if_neg h, List.length_cons]; omega

/-- A run: first, last, step. -/
abbrev Run := Nat × Nat × Nat
def cut1 (l : List UInt8) := cutB 45 l
def cut2 (l : List UInt8) := cutB 58 (cutB 45 l).2.1
/-- The run that a piece tells. -/
def runP (l : List UInt8) : Option Run :=
  match numP (cut1 l).1, (if (cut1 l).2.2 then numP (cut2 l).1 else numP (cut1 l).1), (if (cut2 l).2.2 then numP (cut2 l).2.1 else some 1) with
  | some a, some b, some s => if a ≤ b ∧ 1 ≤ s then some (a, b, s) else none
  | _, _, _ => none
/-- The indexes of a run. -/
def idx (r : Run) : List Nat := (List.range ((r.2.1 - r.1) / r.2.2 + 1)).map fun k => r.1 + r.2.2 * k
def flat (rs : List Run) : List Nat := (rs.map idx).flatten
/-- Index by index: these behind those. -/
def addS : List Nat → List Nat → List Nat × Int
  | [], l => (l, 0)
  | n :: t, l => if n ∈ l then ([], 140) else if 32 ≤ l.length then ([], 3) else addS t (l ++ [n])
def insS (n : Nat) : List Nat → List Nat
  | [] => [n]
  | x :: t => if n < x then n :: x :: t else x :: insS n t
def sortS (l : List Nat) : List Nat := l.foldr insS []
def goodP (ps : List (List UInt8)) : Bool := ps.all fun p => (runP p).isSome
def runsP (ps : List (List UInt8)) : List Run := ps.filterMap runP
/-- What Parse answers. -/
def parseP (l : List UInt8) : List Nat × Int :=
  if 400 < l.length then ([], 3) else if goodP (pcs 44 l) then (sortS (addS (flat (runsP (pcs 44 l))) []).1, (addS (flat (runsP (pcs 44 l))) []).2) else ([], 100)

/-- Rising. -/
def Rise (l : List Nat) : Prop := l.Pairwise (· < ·)
def listN (l : List Nat) : Prop := 1 ≤ l.length ∧ l.length ≤ 32 ∧ (∀ n ∈ l, n ≤ 9999) ∧ Rise l

/-- How many go on evenly. -/
def evK (s : Nat) : Nat → List Nat → Nat
  | _, [] => 0
  | p, x :: t => if x = p + s then evK s x t + 1 else 0
def evn : List Nat → Nat
  | [] => 0
  | [_] => 1
  | a :: b :: t => evK (b - a) b t + 2
theorem evK_le (s p : Nat) (l : List Nat) : evK s p l ≤ l.length := by
  induction l generalizing p with
  | nil => simp [evK]
  | cons x t ih => unfold evK; split; have := ih x; simp; omega; simp
theorem evn_le (l : List Nat) : evn l ≤ l.length := by
  match l with
  | [] => simp [evn]
  | [_] => simp [evn]
  | a :: b :: t => have := evK_le (b - a) b t; simp [evn]; omega
theorem evn_pos (a : Nat) (t : List Nat) : 1 ≤ evn (a :: t) := by
  match t with
  | [] => simp [evn]
  | b :: t => simp [evn]
def runsF : Nat → List Nat → List Run
  | 0, _ => []
  | _ + 1, [] => []
  | f + 1, a :: t => if evn (a :: t) ≤ 2 then (a, a, 1) :: runsF f t else (a, (a :: t).getD (evn (a :: t) - 1) 0, t.getD 0 0 - a) :: runsF f ((a :: t).drop (evn (a :: t)))
theorem runsF_fuel (f : Nat) (l : List Nat) (h : l.length ≤ f) : runsF f l = runsF l.length l := by
  induction f using Nat.strongRecOn generalizing l with
  | ind f ih =>
    match f, l with
    | 0, [] => rfl
    | 0, _ :: _ => simp at h
    | f + 1, [] => simp [runsF]
    | f + 1, a :: t =>
      have hl : t.length ≤ f := by simpa using h
      simp only [runsF, List.length_cons]
      have e1 := evn_pos a t
      have hd : ((a :: t).drop (evn (a :: t))).length ≤ t.length := by simp; omega
      rw [ih f (by omega) t hl, ih f (by omega) _ (by omega)]
      by_cases ht : t.length < f + 1
      · rw [← ih t.length ht _ hd]
      · omega
def runsL (l : List Nat) : List Run := runsF l.length l
theorem runsL_nil : runsL [] = [] := rfl
theorem runsL_cons (a : Nat) (t : List Nat) : runsL (a :: t) = if evn (a :: t) ≤ 2 then (a, a, 1) :: runsL t else (a, (a :: t).getD (evn (a :: t) - 1) 0, t.getD 0 0 - a) :: runsL ((a :: t).drop (evn (a :: t))) := by
  have e1 := evn_pos a t
  have hd : ((a :: t).drop (evn (a :: t))).length ≤ t.length := by simp; omega
  show runsF (t.length + 1) (a :: t) = _
  rw [runsF]
  rw [runsF_fuel _ _ hd]
  rfl

/-- The digits of a number below 10000. -/
def dig (n : Nat) : List UInt8 :=
  if n < 10 then [UInt8.ofNat (48 + n)] else if n < 100 then [UInt8.ofNat (48 + n / 10), UInt8.ofNat (48 + n % 10)]
  else if n < 1000 then [UInt8.ofNat (48 + n / 10 / 10), UInt8.ofNat (48 + n / 10 % 10), UInt8.ofNat (48 + n % 10)]
  else [UInt8.ofNat (48 + n / 10 / 10 / 10), UInt8.ofNat (48 + n / 10 / 10 % 10), UInt8.ofNat (48 + n / 10 % 10), UInt8.ofNat (48 + n % 10)]
theorem dig_dec (n : Nat) (h : n < 10000) : Lib.decDigits n = dig n := by
  unfold dig
  by_cases h1 : n < 10
  · rw [if_pos h1, Lib.decDigits, dif_pos h1]
  · rw [if_neg h1, Lib.decDigits, dif_neg h1]
    by_cases h2 : n < 100
    · rw [if_pos h2, Lib.decDigits, dif_pos (by omega)]; rfl
    · rw [if_neg h2, Lib.decDigits, dif_neg (by omega)]
      by_cases h3 : n < 1000
      · rw [if_pos h3, Lib.decDigits, dif_pos (by omega)]; rfl
      · rw [if_neg h3, Lib.decDigits, dif_neg (by omega), Lib.decDigits, dif_pos (by omega)]; rfl
/-- The text of a run. -/
def textR (r : Run) : List UInt8 := dig r.1 ++ (if r.1 < r.2.1 then 45 :: dig r.2.1 else []) ++ (if 1 < r.2.2 then 58 :: dig r.2.2 else [])
/-- What Print tells. -/
def prT (l : List Nat) : List UInt8 := Lib.join ((runsL l).map textR) [44]

def numOk (n : Nat) : Bool := (numP (dig n) == some n) && (dig n).all (fun b => decide (48 ≤ b.toNat) && decide (b.toNat ≤ 57)) && decide ((dig n).length ≤ 4)
theorem num_dig0 : ∀ x y : Fin 100, numOk (100 * x.val + y.val) = true := by decide +kernel
theorem num_dig (n : Fin 10000) : numP (dig n.val) = some n.val ∧ (dig n.val).all (fun b => decide (48 ≤ b.toNat) && decide (b.toNat ≤ 57)) = true ∧ (dig n.val).length ≤ 4 := by
  have h := num_dig0 ⟨n.val / 100, by omega⟩ ⟨n.val % 100, by omega⟩
  simp only [Nat.div_add_mod] at h
  unfold numOk at h
  simp only [Bool.and_eq_true, beq_iff_eq, decide_eq_true_eq] at h
  exact ⟨h.1.1, h.1.2, h.2⟩
theorem num_dig1 {n : Nat} (h : n ≤ 9999) : numP (dig n) = some n := (num_dig ⟨n, by omega⟩).1
theorem dig_len {n : Nat} (h : n ≤ 9999) : (dig n).length ≤ 4 := (num_dig ⟨n, by omega⟩).2.2
theorem dig_not {n : Nat} (h : n ≤ 9999) (c : UInt8) (hc : c.toNat < 48 ∨ 57 < c.toNat) : c ∉ dig n := by
  intro hm
  have := List.all_eq_true.1 (num_dig ⟨n, by omega⟩).2.1 c hm
  simp at this
  omega

/-- A run as Print tells it. -/
def okR (r : Run) : Prop := r.1 ≤ r.2.1 ∧ r.2.1 ≤ 9999 ∧ 1 ≤ r.2.2 ∧ r.2.2 ≤ 9999 ∧ (r.1 = r.2.1 → r.2.2 = 1)
theorem text_run {r : Run} (h : okR r) : runP (textR r) = some r := by
  obtain ⟨a, b, s⟩ := r
  obtain ⟨h1, h2, h3, h4, h5⟩ := h
  simp only at h1 h2 h3 h4 h5
  have na := num_dig1 (n := a) (by omega)
  have nb := num_dig1 (n := b) (by omega)
  have ns := num_dig1 (n := s) (by omega)
  have ca := dig_not (n := a) (by omega) 45 (by decide)
  have cb := dig_not (n := b) (by omega) 58 (by decide)
  unfold runP textR cut1 cut2
  simp only
  by_cases hab : a < b
  · rw [if_pos hab]
    by_cases hs : 1 < s
    · rw [if_pos hs, List.append_assoc, List.cons_append, cut_more 45 _ _ ca]
      simp only
      rw [cut_more 58 _ _ cb]
      simp [na, nb, ns, h1, h3]
    · obtain rfl : s = 1 := by omega
      rw [if_neg hs, List.append_nil, cut_more 45 _ _ ca]
      simp only
      rw [cut_plain 58 _ cb]
      simp [na, nb, h1]
  · obtain rfl : a = b := by omega
    obtain rfl := h5 rfl
    rw [if_neg hab]
    simp only [List.append_nil, Nat.lt_irrefl, if_false]
    rw [cut_plain 45 _ ca]
    simp [cutB, na]
theorem text_no {r : Run} (h : okR r) : (44 : UInt8) ∉ textR r := by
  obtain ⟨a, b, s⟩ := r
  obtain ⟨h1, h2, h3, h4, h5⟩ := h
  simp only at h1 h2 h3 h4 h5
  have ca := dig_not (n := a) (by omega) 44 (by decide)
  have cb := dig_not (n := b) (by omega) 44 (by decide)
  have cs := dig_not (n := s) (by omega) 44 (by decide)
  unfold textR
  simp only [List.mem_append, not_or]
  refine ⟨⟨ca, ?_⟩, ?_⟩
  · split
    · simp [cb]
    · simp
  · split
    · simp [cs]
    · simp

theorem pcs_plain (c : UInt8) (x : List UInt8) (h : c ∉ x) : pcs c x = [x] := by rw [pcs_cut, cut_plain c x h]; rfl
theorem pcs_more (c : UInt8) (x r : List UInt8) (h : c ∉ x) : pcs c (x ++ c :: r) = x :: pcs c r := by rw [pcs_cut, cut_more c x r h]; rfl
theorem pcs_join (x : List UInt8) (xs : List (List UInt8)) (h : ∀ y ∈ x :: xs, (44 : UInt8) ∉ y) : pcs 44 (Lib.join (x :: xs) [44]) = x :: xs := by
  induction xs generalizing x with
  | nil => rw [Lib.join_one]; exact pcs_plain 44 x (h x (by simp))
  | cons y t ih =>
    have e : Lib.join (x :: y :: t) [44] = x ++ 44 :: Lib.join (y :: t) [44] := by
      rw [Lib.join_cons, Lib.join_cons]; simp [Lib.joinTail]
    rw [e, pcs_more 44 _ _ (h x (by simp)), ih y (fun z hz => h z (by simp at hz ⊢; exact .inr hz))]

theorem evK_take (s : Nat) : ∀ (p : Nat) (l : List Nat), l.take (evK s p l) = (List.range (evK s p l)).map fun k => p + s * (k + 1)
  | _, [] => by simp [evK]
  | p, x :: t => by
    unfold evK
    split
    · rename_i h
      subst h
      rw [List.take_succ_cons, evK_take s (p + s) t, List.range_succ_eq_map, List.map_cons, List.map_map]
      congr 1
      · simp
      · apply List.map_congr_left
        intro k _
        simp [Nat.mul_add]; omega
    · simp
theorem evn_take {a b : Nat} {t : List Nat} (h : a < b) : (a :: b :: t).take (evn (a :: b :: t)) = (List.range (evn (a :: b :: t))).map fun k => a + (b - a) * k := by
  show (a :: b :: t).take (evK (b - a) b t + 2) = (List.range (evK (b - a) b t + 2)).map _
  rw [List.take_succ_cons, List.take_succ_cons, evK_take, List.range_succ_eq_map, List.range_succ_eq_map]
  simp only [List.map_cons, List.map_map, Nat.mul_zero, Nat.add_zero]
  congr 1
  congr 1
  · simp; omega
  · apply List.map_congr_left
    intro k _
    simp [Nat.mul_add]; omega

theorem evn_run {a b : Nat} {t : List Nat} (h : a < b) (n : Nat) (hn : evn (a :: b :: t) = n) (h3 : 2 < n) : (a :: b :: t).getD (n - 1) 0 = a + (b - a) * (n - 1) ∧ idx (a, (a :: b :: t).getD (n - 1) 0, b - a) = (a :: b :: t).take n := by
  have ht := evn_take (t := t) h
  have hle := evn_le (a :: b :: t)
  rw [hn] at ht hle
  have hg : (a :: b :: t).getD (n - 1) 0 = a + (b - a) * (n - 1) := by
    have h1 : ((a :: b :: t).take n)[n - 1]? = some (a + (b - a) * (n - 1)) := by
      rw [ht, List.getElem?_map, List.getElem?_range (by omega)]; rfl
    rw [List.getElem?_take, if_pos (by omega)] at h1
    rw [List.getD_eq_getElem?_getD, h1]; rfl
  refine ⟨hg, ?_⟩
  rw [hg, ht]
  unfold idx
  simp only
  rw [show (a + (b - a) * (n - 1) - a) / (b - a) + 1 = n by rw [Nat.add_sub_cancel_left, Nat.mul_div_cancel_left _ (by omega)]; omega]

theorem runs_good (f : Nat) : ∀ l : List Nat, l.length ≤ f → (∀ n ∈ l, n ≤ 9999) → Rise l → (∀ r ∈ runsL l, okR r) ∧ flat (runsL l) = l ∧ (Lib.lens ((runsL l).map textR) + (runsL l).length ≤ 5 * l.length) := by
  induction f with
  | zero =>
    intro l hl _ _
    have : l = [] := List.eq_nil_of_length_eq_zero (by omega)
    subst this
    exact ⟨by simp [runsL_nil], rfl, by simp [runsL_nil, Lib.lens]⟩
  | succ f ih =>
    intro l hl hb hr
    match l with
    | [] => exact ⟨by simp [runsL_nil], rfl, by simp [runsL_nil, Lib.lens]⟩
    | a :: t =>
      have hr' := hr
      unfold Rise at hr
      rw [List.pairwise_cons] at hr
      have ha := hb a (by simp)
      rw [runsL_cons]
      by_cases h2 : evn (a :: t) ≤ 2
      · rw [if_pos h2]
        obtain ⟨k1, k2, k3⟩ := ih t (by simpa using hl) (fun n hn => hb n (by simp [hn])) hr.2
        refine ⟨?_, ?_, ?_⟩
        · intro r hm
          rcases List.mem_cons.1 hm with rfl | hm
          · exact ⟨Nat.le_refl _, ha, Nat.le_refl _, by simp, fun _ => rfl⟩
          · exact k1 r hm
        · show idx (a, a, 1) ++ flat (runsL t) = _
          rw [k2]
          simp [idx]
        · have : (textR (a, a, 1)).length ≤ 4 := by
            have := dig_len ha
            simp [textR]; exact this
          simp only [List.map_cons, Lib.lens, List.sum_cons, List.length_cons] at k3 ⊢
          omega
      · rw [if_neg h2]
        match t, hr, h2 with
        | [], _, h2 => simp [evn] at h2
        | b :: t, hr, h2 =>
          obtain ⟨n, hn⟩ : ∃ n, evn (a :: b :: t) = n := ⟨_, rfl⟩
          have hab : a < b := hr.1 b (by simp)
          have hbb := hb b (by simp)
          obtain ⟨g1, g2⟩ := evn_run (t := t) hab n hn (by omega)
          have hle := evn_le (a :: b :: t)
          rw [hn] at hle h2 ⊢
          have hmem : (a :: b :: t).getD (n - 1) 0 ∈ (a :: b :: t) := by
            rw [List.getD_eq_getElem?_getD, List.getElem?_eq_getElem (by omega), Option.getD_some]
            exact List.getElem_mem _
          have hgb := hb _ hmem
          have hd : ((a :: b :: t).drop n).length ≤ f := by rw [List.length_drop]; omega
          obtain ⟨k1, k2, k3⟩ := ih ((a :: b :: t).drop n) hd (fun n hn => hb n (List.mem_of_mem_drop hn)) (hr'.sublist (List.drop_sublist _ _))
          have hpos : 0 < (b - a) * (n - 1) := Nat.mul_pos (by omega) (by omega)
          have hok : okR (a, (a :: b :: t).getD (n - 1) 0, b - a) := by
            refine ⟨by rw [g1]; simp, hgb, by simp; omega, by simp; omega, fun e => ?_⟩
            simp only at e
            rw [g1] at e
            omega
          refine ⟨?_, ?_, ?_⟩
          · intro r hm
            rcases List.mem_cons.1 hm with rfl | hm
            · exact hok
            · exact k1 r hm
          · show idx (a, (a :: b :: t).getD (n - 1) 0, b - a) ++ flat (runsL ((a :: b :: t).drop n)) = _
            rw [k2, g2, List.take_append_drop]
          · have hlen : (textR (a, (a :: b :: t).getD (n - 1) 0, b - a)).length ≤ 14 := by
              have e1 := dig_len ha
              have e2 := dig_len hgb
              have e3 := dig_len (n := b - a) (by omega)
              unfold textR
              simp only [List.length_append]
              generalize (a :: b :: t).getD (n - 1) 0 = G at *
              split <;> split <;> simp <;> omega
            have hdl : ((a :: b :: t).drop n).length = (a :: b :: t).length - n := List.length_drop
            rw [hdl] at k3
            simp only [List.map_cons, Lib.lens, List.sum_cons, List.length_cons, List.getD_cons_zero] at k3 hle ⊢
            omega

theorem good_map {rs : List Run} (h : ∀ r ∈ rs, okR r) : goodP (rs.map textR) = true ∧ runsP (rs.map textR) = rs := by
  constructor
  · unfold goodP
    rw [List.all_eq_true]
    intro p hp
    obtain ⟨r, hr, rfl⟩ := List.mem_map.1 hp
    rw [text_run (h r hr)]; rfl
  · unfold runsP
    induction rs with
    | nil => rfl
    | cons r t ih => rw [List.map_cons, List.filterMap_cons, text_run (h r (by simp))]; simp only; rw [ih (fun x hx => h x (by simp [hx]))]

theorem addS_ok (l m : List Nat) (h : (m ++ l).Nodup) (hl : m.length + l.length ≤ 32) : addS l m = (m ++ l, 0) := by
  induction l generalizing m with
  | nil => simp [addS]
  | cons n t ih =>
    have hn : n ∉ m := by
      intro hm
      rw [List.nodup_append] at h
      exact h.2.2 n hm n (by simp) rfl
    simp only [List.length_cons] at hl
    rw [addS, if_neg hn, if_neg (by omega), ih (m ++ [n]) (by simpa using h) (by simp; omega)]
    simp
theorem ins_front (n : Nat) (l : List Nat) (h : ∀ x ∈ l, n < x) : insS n l = n :: l := by
  cases l with
  | nil => rfl
  | cons x t => rw [insS, if_pos (h x (by simp))]
theorem sort_rise (l : List Nat) (h : Rise l) : sortS l = l := by
  induction l with
  | nil => rfl
  | cons n t ih =>
    unfold Rise at h
    rw [List.pairwise_cons] at h
    show insS n (sortS t) = _
    rw [ih h.2, ins_front n t h.1]

/-- What Print tells, Parse reads. -/
theorem parse_print {l : List Nat} (h : listN l) : parseP (prT l) = (l, 0) := by
  obtain ⟨h1, h2, h3, h4⟩ := h
  obtain ⟨k1, k2, k3⟩ := runs_good l.length l (Nat.le_refl _) h3 h4
  have hne : runsL l ≠ [] := by
    intro e
    rw [e] at k2
    rw [← k2] at h1
    simp [flat] at h1
  have hp : pcs 44 (prT l) = (runsL l).map textR := by
    unfold prT
    cases e : runsL l with
    | nil => exact absurd e hne
    | cons r t =>
      rw [List.map_cons, pcs_join]
      intro y hy
      rw [← List.map_cons (f := textR), ← e] at hy
      obtain ⟨q, hq, rfl⟩ := List.mem_map.1 hy
      exact text_no (k1 q hq)
  have hlen : (prT l).length ≤ 400 := by
    unfold prT
    cases e : runsL l with
    | nil => exact absurd e hne
    | cons r t =>
      rw [e] at k3
      rw [List.map_cons, Lib.join_cons, List.length_append, Lib.joinTail_length]
      simp only [List.map_cons, Lib.lens, List.sum_cons, List.length_cons, List.length_map] at k3 ⊢
      simp only [List.length_nil]
      omega
  obtain ⟨g1, g2⟩ := good_map k1
  have hnd : ([] ++ l).Nodup := by
    rw [List.nil_append]
    exact h4.imp fun h => Nat.ne_of_lt h
  unfold parseP
  rw [if_neg (by omega), hp, g1, g2, k2, if_pos rfl, addS_ok l [] hnd (by simpa using h2)]
  simp only [List.nil_append]
  rw [sort_rise l h4]

theorem ins_perm (n : Nat) (l : List Nat) : (insS n l).Perm (n :: l) := by
  induction l with
  | nil => exact .refl _
  | cons x t ih =>
    unfold insS
    split
    · exact .refl _
    · exact ((ih.cons x).trans (.swap _ _ _))
theorem sort_perm (l : List Nat) : (sortS l).Perm l := by
  induction l with
  | nil => exact .refl _
  | cons n t ih => exact (ins_perm n (sortS t)).trans (ih.cons n)
theorem ins_rise (n : Nat) (l : List Nat) (h : Rise l) (hn : n ∉ l) : Rise (insS n l) := by
  induction l with
  | nil => exact List.pairwise_singleton _ _
  | cons x t ih =>
    have hx := h
    unfold Rise at h
    rw [List.pairwise_cons] at h
    unfold insS
    split
    · rename_i hlt
      show List.Pairwise _ _
      rw [List.pairwise_cons]
      exact ⟨fun y hy => by rcases List.mem_cons.1 hy with rfl | hy; exact hlt; exact Nat.lt_trans hlt (h.1 y hy), hx⟩
    · rename_i hlt
      have hnx : n ≠ x := fun e => hn (by simp [e])
      show List.Pairwise _ _
      rw [List.pairwise_cons]
      refine ⟨fun y hy => ?_, ih h.2 fun e => hn (by simp [e])⟩
      rcases List.mem_cons.1 ((ins_perm n t).mem_iff.1 hy) with rfl | hy
      · omega
      · exact h.1 y hy
theorem sort_rising (l : List Nat) (h : l.Nodup) : Rise (sortS l) := by
  induction l with
  | nil => exact List.Pairwise.nil
  | cons n t ih =>
    rw [List.nodup_cons] at h
    exact ins_rise n _ (ih h.2) fun hm => h.1 ((sort_perm t).mem_iff.1 hm)
theorem rise_perm {a b : List Nat} (ha : Rise a) (hb : Rise b) (h : a.Perm b) : a = b := by
  induction a generalizing b with
  | nil => exact (List.nil_perm.1 h).symm
  | cons x t ih =>
    cases b with
    | nil => exact absurd (List.perm_nil.1 h) (by simp)
    | cons y u =>
      unfold Rise at ha hb
      rw [List.pairwise_cons] at ha hb
      have hxy : x = y := by
        rcases List.mem_cons.1 (h.mem_iff.1 (List.mem_cons_self (a := x) (l := t))) with e | e
        · exact e
        · rcases List.mem_cons.1 (h.mem_iff.2 (List.mem_cons_self (a := y) (l := u))) with e2 | e2
          · exact e2.symm
          · have := hb.1 x e; have := ha.1 y e2; omega
      subst hxy
      rw [ih ha.2 hb.2 ((List.perm_cons x).1 h)]

theorem addS_good (l m : List Nat) (hm : m.Nodup) (hml : m.length ≤ 32) : ((addS l m).2 = 0 ∧ (addS l m).1 = m ++ l ∧ (m ++ l).Nodup ∧ (m ++ l).length ≤ 32) ∨ ((addS l m).1 = [] ∧ ((addS l m).2 = 140 ∨ (addS l m).2 = 3)) := by
  induction l generalizing m with
  | nil => left; simp [addS]; exact ⟨hm, hml⟩
  | cons n t ih =>
    unfold addS
    split
    · right; simp
    · rename_i hn
      split
      · right; simp
      · rename_i h32
        rcases ih (m ++ [n]) (by rw [List.nodup_append]; exact ⟨hm, by simp, fun a ha b hb e => hn (by simp at hb; rw [← hb, ← e]; exact ha)⟩) (by simp; omega) with ⟨h1, h2, h3, h4⟩ | h
        · left
          rw [List.append_assoc] at h2 h3 h4
          exact ⟨h1, h2, h3, h4⟩
        · exact .inr h

theorem acc_le : ∀ (l : List UInt8) (n k : Nat), numAcc l n = some k → k + 1 ≤ (n + 1) * 10 ^ l.length
  | [], n, k, h => by simp [numAcc] at h; subst h; simp
  | b :: t, n, k, h => by
    unfold numAcc at h
    split at h
    · rename_i hd
      have := acc_le t _ k h
      refine Nat.le_trans this ?_
      rw [List.length_cons, Nat.pow_succ, Nat.mul_comm (10 ^ t.length) 10, ← Nat.mul_assoc]
      exact Nat.mul_le_mul_right _ (by omega)
    · cases h
theorem num_le {l : List UInt8} {n : Nat} (h : numP l = some n) : n ≤ 9999 := by
  unfold numP at h
  split at h
  · cases h
  · rename_i hl
    have h1 := acc_le l 0 n h
    have h2 : l.length ≤ 4 := by simp at hl; omega
    have h3 : 10 ^ l.length ≤ 10 ^ 4 := Nat.pow_le_pow_right (by omega) h2
    omega
theorem run_le {l : List UInt8} {r : Run} (h : runP l = some r) : r.1 ≤ r.2.1 ∧ r.2.1 ≤ 9999 ∧ 1 ≤ r.2.2 ∧ r.2.2 ≤ 9999 := by
  unfold runP at h
  split at h
  · rename_i a b s e1 e2 e3
    split at h
    · rename_i hc
      cases h
      refine ⟨hc.1, ?_, hc.2, ?_⟩
      · split at e2
        · exact num_le e2
        · exact num_le e2
      · split at e3
        · exact num_le e3
        · cases e3; simp
    · cases h
  · cases h
theorem idx_le {r : Run} (h1 : r.1 ≤ r.2.1) (h2 : r.2.1 ≤ 9999) : ∀ n ∈ idx r, n ≤ 9999 := by
  intro n hn
  obtain ⟨k, hk, rfl⟩ := List.mem_map.1 hn
  rw [List.mem_range] at hk
  have : r.2.2 * k ≤ r.2.1 - r.1 := by
    rcases Nat.eq_zero_or_pos r.2.2 with e | e
    · rw [e]; simp
    · have := Nat.mul_le_mul_left r.2.2 (show k ≤ (r.2.1 - r.1) / r.2.2 by omega)
      exact Nat.le_trans this (Nat.mul_div_le _ _)
  omega
theorem idx_pos (r : Run) : 1 ≤ (idx r).length := by simp [idx]

/-- What Parse reads is an index list. -/
theorem parse_good (l : List UInt8) : ((parseP l).2 = 0 ∧ listN (parseP l).1) ∨ ((parseP l).2 ≠ 0 ∧ (parseP l).1 = []) := by
  unfold parseP
  split
  · right; simp
  · split
    · rename_i hg
      have hall : ∀ r ∈ runsP (pcs 44 l), r.1 ≤ r.2.1 ∧ r.2.1 ≤ 9999 ∧ 1 ≤ r.2.2 ∧ r.2.2 ≤ 9999 := by
        intro r hr
        obtain ⟨p, _, hp⟩ := List.mem_filterMap.1 hr
        exact run_le hp
      have hpos : 1 ≤ (flat (runsP (pcs 44 l))).length := by
        cases e : pcs 44 l with
        | nil => exact absurd e (pcs_ne _ _)
        | cons p ps =>
          rw [e] at hg
          unfold goodP at hg
          rw [List.all_cons, Bool.and_eq_true] at hg
          obtain ⟨r, hr⟩ := Option.isSome_iff_exists.1 hg.1
          unfold runsP
          rw [List.filterMap_cons, hr]
          have := idx_pos r
          show 1 ≤ (idx r ++ flat (List.filterMap runP ps)).length
          rw [List.length_append]; omega
      rcases addS_good (flat (runsP (pcs 44 l))) [] (by simp) (by simp) with ⟨h1, h2, h3, h4⟩ | ⟨h1, h2⟩
      · left
        rw [List.nil_append] at h2 h3 h4
        have hp := sort_perm (flat (runsP (pcs 44 l)))
        rw [h2]
        refine ⟨h1, ?_, ?_, ?_, sort_rising _ h3⟩
        · rw [hp.length_eq]; exact hpos
        · rw [hp.length_eq]; exact h4
        · intro n hn
          have hn := hp.mem_iff.1 hn
          unfold flat at hn
          obtain ⟨x, hx, hn⟩ := List.mem_flatten.1 hn
          obtain ⟨r, hr, rfl⟩ := List.mem_map.1 hx
          exact idx_le (hall r hr).1 (hall r hr).2.1 n hn
      · right
        rw [h1]
        refine ⟨?_, rfl⟩
        simp only
        rcases h2 with h | h <;> rw [h] <;> decide
    · right; simp

end Go.Proofs.YtomdghodbkhkaaaGreatDoor
