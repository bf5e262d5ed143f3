/- Texts of sets: runs, what Print tells and Parse reads; plain. -/
import Derived.Test.YtebdlcgegdobkaaDoorBits
import Derived.Lib.Join
import Derived.Lib.ItoaNum
namespace Go.Proofs.YtebdlcgegdobkaaDoor

/-- The digits of a node. -/
def dig (n : Nat) : List UInt8 := if n < 10 then [UInt8.ofNat (48 + n)] else [UInt8.ofNat (48 + n / 10), UInt8.ofNat (48 + n % 10)]

/-- The text of a run. -/
def runT (r : Nat × Nat) : List UInt8 := if r.1 = r.2 then dig r.1 else dig r.1 ++ 45 :: dig r.2

/-- Is n the first of a run? -/
def isFst (s n : Nat) : Bool := s.testBit n && !(decide (1 ≤ n) && s.testBit (n - 1))

/-- Is n the last of a run? -/
def isLst (s n : Nat) : Bool := s.testBit n && !s.testBit (n + 1)

/-- Behind the nodes below k: the first of the run that stands open, and the runs that are told. -/
def runsTo (s : Nat) : Nat → Nat × List (Nat × Nat)
  | 0 => (0, [])
  | k + 1 =>
    (if isFst s k then k else (runsTo s k).1,
     if isLst s k then (runsTo s k).2 ++ [(if isFst s k then k else (runsTo s k).1, k)] else (runsTo s k).2)

def runs (s : Nat) : List (Nat × Nat) := (runsTo s 32).2

def none4 : List UInt8 := [110, 111, 110, 101]

/-- The text of a set. -/
def pr (s : Nat) : List UInt8 := if s = 0 then none4 else Lib.join ((runs s).map runT) [44]

/-- Does a run go on over the place k? -/
def Pend (s k : Nat) : Prop := 1 ≤ k ∧ s.testBit (k - 1) = true ∧ s.testBit k = true

structure RunInv (s k : Nat) : Prop where
  open_ : Pend s k → (runsTo s k).1 < k
  all : ∀ i, (i < k ∧ s.testBit i = true) ↔ ((∃ r ∈ (runsTo s k).2, r.1 ≤ i ∧ i ≤ r.2) ∨ (Pend s k ∧ (runsTo s k).1 ≤ i ∧ i < k))
  ok : ∀ r ∈ (runsTo s k).2, r.1 ≤ r.2 ∧ r.2 < k

theorem runInv (s : Nat) : ∀ k, RunInv s k := by
  intro k
  induction k with
  | zero => exact ⟨fun h => absurd h.1 (by omega), fun i => by simp [runsTo, Pend], fun r hr => by simp [runsTo] at hr⟩
  | succ k ih =>
    cases hb : s.testBit k
    · have e1 : isFst s k = false := by simp [isFst, hb]
      have e2 : isLst s k = false := by simp [isLst, hb]
      have hp : ¬ Pend s (k + 1) := fun h => by have := h.2.1; simp [hb] at this
      have hp0 : ¬ Pend s k := fun h => by have := h.2.2; simp [hb] at this
      have e : runsTo s (k + 1) = runsTo s k := by simp [runsTo, e1, e2]
      refine ⟨fun h => absurd h hp, fun i => ?_, fun r hr => ?_⟩
      · rw [e]
        have := ih.all i
        constructor
        · rintro ⟨h1, h2⟩
          have hi : i < k := by
            rcases Nat.lt_or_ge i k with h | h
            · exact h
            · have : i = k := by omega
              subst this; rw [hb] at h2; cases h2
          rcases this.1 ⟨hi, h2⟩ with h | h
          · exact .inl h
          · exact absurd h.1 hp0
        · rintro (h | h)
          · have h3 := this.2 (.inl h); exact ⟨by omega, h3.2⟩
          · exact absurd h.1 hp
      · rw [e] at hr
        have := ih.ok r hr
        omega
    · have hf : ∃ f, f = (if isFst s k then k else (runsTo s k).1) ∧ f ≤ k ∧ ∀ i, (i < k + 1 ∧ s.testBit i = true) ↔ ((∃ r ∈ (runsTo s k).2, r.1 ≤ i ∧ i ≤ r.2) ∨ (f ≤ i ∧ i < k + 1)) := by
        refine ⟨_, rfl, ?_⟩
        cases hs : isFst s k
        · have hpd : Pend s k := by
            simp [isFst, hb] at hs
            exact ⟨hs.1, hs.2, hb⟩
          have hlt := ih.open_ hpd
          simp only [Bool.false_eq_true, if_false]
          refine ⟨by omega, fun i => ?_⟩
          have := ih.all i
          constructor
          · rintro ⟨h1, h2⟩
            by_cases hi : i < k
            · rcases this.1 ⟨hi, h2⟩ with h | h
              · exact .inl h
              · exact .inr ⟨h.2.1, h1⟩
            · exact .inr ⟨by omega, h1⟩
          · rintro (h | h)
            · have h3 := this.2 (.inl h); exact ⟨by omega, h3.2⟩
            · by_cases hi : i < k
              · have h3 := this.2 (.inr ⟨hpd, h.1, hi⟩); exact ⟨by omega, h3.2⟩
              · have : i = k := by omega
                subst this; exact ⟨by omega, hb⟩
        · have hnp : ¬ Pend s k := fun h => by
            have h1 := h.1
            have h2 := h.2.1
            simp [isFst, hb, h1, h2] at hs
          simp only [if_true]
          refine ⟨by omega, fun i => ?_⟩
          have := ih.all i
          constructor
          · rintro ⟨h1, h2⟩
            by_cases hi : i < k
            · rcases this.1 ⟨hi, h2⟩ with h | h
              · exact .inl h
              · exact absurd h.1 hnp
            · exact .inr ⟨by omega, h1⟩
          · rintro (h | h)
            · have h3 := this.2 (.inl h); exact ⟨by omega, h3.2⟩
            · have : i = k := by omega
              subst this; exact ⟨by omega, hb⟩
      obtain ⟨f, ef, hfk, hall⟩ := hf
      cases hl : isLst s k
      · have hb1 : s.testBit (k + 1) = true := by simpa [isLst, hb] using hl
        have e : runsTo s (k + 1) = (f, (runsTo s k).2) := by simp [runsTo, hl, ef]
        have hp : Pend s (k + 1) := ⟨by omega, by simpa using hb, hb1⟩
        refine ⟨fun _ => by rw [e]; simp; omega, fun i => ?_, fun r hr => ?_⟩
        · rw [e, hall i]; simp [hp]
        · rw [e] at hr
          have := ih.ok r hr
          omega
      · have hb1 : s.testBit (k + 1) = false := by simpa [isLst, hb] using hl
        have e : runsTo s (k + 1) = (f, (runsTo s k).2 ++ [(f, k)]) := by simp [runsTo, hl, ef]
        have hp : ¬ Pend s (k + 1) := fun h => by have := h.2.2; rw [hb1] at this; cases this
        refine ⟨fun h => absurd h hp, fun i => ?_, fun r hr => ?_⟩
        · rw [e, hall i]
          constructor
          · rintro (⟨r, h1, h2⟩ | h)
            · exact .inl ⟨r, by simp [h1], h2⟩
            · exact .inl ⟨(f, k), by simp, by simp; omega⟩
          · rintro (⟨r, h1, h2⟩ | h)
            · simp only [List.mem_append, List.mem_singleton] at h1
              rcases h1 with h1 | h1
              · exact .inl ⟨r, h1, h2⟩
              · subst h1; simp at h2; exact .inr ⟨h2.1, by omega⟩
            · exact absurd h.1 hp
        · rw [e] at hr
          simp only [List.mem_append, List.mem_singleton] at hr
          rcases hr with h1 | h1
          · have := ih.ok r h1; omega
          · subst h1; simp; exact hfk

theorem runs_mem {s : Nat} (hs : s < 4294967296) (i : Nat) : (i < 32 ∧ s.testBit i = true) ↔ ∃ r ∈ runs s, r.1 ≤ i ∧ i ≤ r.2 := by
  have h := (runInv s 32).all i
  have hp : ¬ Pend s 32 := fun h => by have := bit_lt hs h.2.2; omega
  rw [h]
  simp [hp, runs]

theorem runs_ok {s : Nat} : ∀ r ∈ runs s, r.1 ≤ r.2 ∧ r.2 < 32 := (runInv s 32).ok

theorem runs_ne {s : Nat} (hs : s < 4294967296) (h : s ≠ 0) : runs s ≠ [] := by
  intro e
  apply h
  refine ext32 hs (by omega) fun i hi => ?_
  rw [Nat.zero_testBit]
  cases hb : s.testBit i
  · rfl
  · obtain ⟨r, hr, _⟩ := (runs_mem hs i).1 ⟨hi, hb⟩
    rw [e] at hr; simp at hr

/-- The nodes from a to b. -/
def maskN (a b : Nat) : Nat := ofN ((List.range 32).filter fun n => decide (a ≤ n) && decide (n ≤ b))

theorem mask_bit (a b i : Nat) : (maskN a b).testBit i = (decide (i < 32) && decide (a ≤ i) && decide (i ≤ b)) := by
  unfold maskN
  rw [ofN_bit]
  by_cases h1 : i < 32 <;> by_cases h2 : a ≤ i <;> by_cases h3 : i ≤ b <;> simp [h1, h2, h3]

theorem mask_lt (a b : Nat) : maskN a b < 4294967296 := ofN_lt fun n hn => by simp at hn; exact hn.1

/-- All nodes of these runs. -/
def unionR (s : Nat) (l : List (Nat × Nat)) : Nat := l.foldl (fun s r => s ||| maskN r.1 r.2) s

theorem union_bit (l : List (Nat × Nat)) (s i : Nat) : (unionR s l).testBit i = (s.testBit i || l.any fun r => (maskN r.1 r.2).testBit i) := by
  induction l generalizing s with
  | nil => simp [unionR]
  | cons r t ih =>
    show (unionR (s ||| maskN r.1 r.2) t).testBit i = _
    rw [ih, Nat.testBit_or, List.any_cons, Bool.or_assoc]

theorem union_lt {s : Nat} (hs : s < 4294967296) (l : List (Nat × Nat)) : unionR s l < 4294967296 := by
  induction l generalizing s with
  | nil => exact hs
  | cons r t ih => exact ih (Nat.or_lt_two_pow (n := 32) (by simpa using hs) (by simpa using mask_lt r.1 r.2))

theorem union_runs {s : Nat} (hs : s < 4294967296) : unionR 0 (runs s) = s := by
  refine ext32 (union_lt (by omega) _) hs fun i hi => ?_
  rw [union_bit, Nat.zero_testBit, Bool.false_or]
  cases hb : s.testBit i
  · rw [List.any_eq_false]
    intro r hr hm
    rw [mask_bit] at hm
    simp at hm
    have := (runs_mem hs i).2 ⟨r, hr, hm.1.2, hm.2⟩
    rw [hb] at this; cases this.2
  · obtain ⟨r, hr, h1, h2⟩ := (runs_mem hs i).1 ⟨hi, hb⟩
    rw [List.any_eq_true]
    exact ⟨r, hr, by rw [mask_bit]; simp [hi, h1, h2]⟩

/-- The number that digits tell, from n on; none if it is no node's. -/
def nodeAcc : List UInt8 → Nat → Option Nat
  | [], n => some n
  | b :: t, n => if 48 ≤ b.toNat ∧ b.toNat ≤ 57 then (if n * 10 + (b.toNat - 48) < 32 then nodeAcc t (n * 10 + (b.toNat - 48)) else none) else none

def nodeP (l : List UInt8) : Option Nat := if l = [] then none else nodeAcc l 0

/-- What is ahead of the first c, what is behind it, and whether there is one. -/
def cutB (c : UInt8) : List UInt8 → List UInt8 × List UInt8 × Bool
  | [] => ([], [], false)
  | b :: t => if b = c then ([], t, true) else (b :: (cutB c t).1, (cutB c t).2.1, (cutB c t).2.2)

/-- The nodes of a run's text. -/
def runOfP (l : List UInt8) : Option Nat :=
  match nodeP (cutB 45 l).1, nodeP (if (cutB 45 l).2.2 then (cutB 45 l).2.1 else (cutB 45 l).1) with
  | some a, some b => some (maskN a b)
  | _, _ => none

/-- What stands between commas. -/
def pieces : List UInt8 → List (List UInt8)
  | [] => [[]]
  | b :: t => if b = 44 then [] :: pieces t else match pieces t with | p :: ps => (b :: p) :: ps | [] => [[b]]

theorem pieces_ne (l : List UInt8) : pieces l ≠ [] := by
  cases l with
  | nil => simp [pieces]
  | cons b t => unfold pieces; split; simp; split <;> simp

theorem pieces_cut (l : List UInt8) : pieces l = if (cutB 44 l).2.2 then (cutB 44 l).1 :: pieces (cutB 44 l).2.1 else [(cutB 44 l).1] := by
  induction l with
  | nil => rfl
  | cons b t ih =>
    by_cases h : b = 44
    · subst h; simp [pieces, cutB]
    · simp only [pieces, cutB, if_neg h]
      rw [ih]
      split
      · rename_i p ps e
        split at e
        · rename_i h2; rw [if_pos h2]; cases e; rfl
        · rename_i h2; rw [if_neg h2]; cases e; rfl
      · rename_i e
        split at e <;> cases e

def readStep (acc : Option Nat) (p : List UInt8) : Option Nat := acc.bind fun s => (runOfP p).map (s ||| ·)

def readP (l : List UInt8) : Option Nat := (pieces l).foldl readStep (some 0)

/-- What Parse answers. -/
def parseP (l : List UInt8) : Nat × Int :=
  if l = none4 then (0, 0) else match readP l with | none => (0, 100) | some s => if pr s = l then (s, 0) else (0, 100)

theorem runT_read : ∀ a b : Fin 32, a.val ≤ b.val → runOfP (runT (a.val, b.val)) = some (maskN a.val b.val) := by decide +kernel

theorem runT_plain : ∀ a b : Fin 32, (44 : UInt8) ∉ runT (a.val, b.val) := by decide +kernel

theorem pieces_plain (x : List UInt8) (h : (44 : UInt8) ∉ x) : pieces x = [x] := by
  induction x with
  | nil => rfl
  | cons b t ih =>
    have h1 : b ≠ 44 := fun e => h (by simp [e])
    have h2 := ih fun e => h (by simp [e])
    simp [pieces, h1, h2]

theorem pieces_more (x r : List UInt8) (h : (44 : UInt8) ∉ x) : pieces (x ++ 44 :: r) = x :: pieces r := by
  induction x with
  | nil => simp [pieces]
  | cons b t ih =>
    have h1 : b ≠ 44 := fun e => h (by simp [e])
    have h2 := ih fun e => h (by simp [e])
    simp [pieces, h1, h2]

theorem pieces_join (x : List UInt8) (xs : List (List UInt8)) (h : ∀ y ∈ x :: xs, (44 : UInt8) ∉ y) : pieces (Lib.join (x :: xs) [44]) = x :: xs := by
  induction xs generalizing x with
  | nil => rw [Lib.join_one]; exact pieces_plain x (h x (by simp))
  | cons y t ih =>
    have e : Lib.join (x :: y :: t) [44] = x ++ 44 :: Lib.join (y :: t) [44] := by
      rw [Lib.join_cons, Lib.join_cons]; simp [Lib.joinTail]
    rw [e, pieces_more _ _ (h x (by simp)), ih y (fun z hz => h z (by simp at hz ⊢; exact .inr hz))]

theorem read_runs (l : List (Nat × Nat)) (h : ∀ r ∈ l, r.1 ≤ r.2 ∧ r.2 < 32) (s : Nat) : (l.map runT).foldl readStep (some s) = some (unionR s l) := by
  induction l generalizing s with
  | nil => rfl
  | cons r t ih =>
    have h1 := h r (by simp)
    have h2 := runT_read ⟨r.1, by omega⟩ ⟨r.2, h1.2⟩ h1.1
    have h3 : runOfP (runT r) = some (maskN r.1 r.2) := h2
    simp only [List.map_cons, List.foldl_cons]
    rw [show readStep (some s) (runT r) = some (s ||| maskN r.1 r.2) by simp [readStep, h3]]
    exact ih (fun x hx => h x (by simp [hx])) _

theorem read_print {s : Nat} (hs : s < 4294967296) (h : s ≠ 0) : readP (pr s) = some s := by
  have hne := runs_ne hs h
  have hok := runs_ok (s := s)
  unfold readP pr
  rw [if_neg h]
  cases e : runs s with
  | nil => exact absurd e hne
  | cons r t =>
    rw [List.map_cons, pieces_join]
    · rw [← List.map_cons (f := runT), ← e, read_runs _ hok, union_runs hs]
    · intro y hy
      rw [← List.map_cons (f := runT), ← e] at hy
      obtain ⟨q, hq, rfl⟩ := List.mem_map.1 hy
      have := hok q hq
      exact runT_plain ⟨q.1, by omega⟩ ⟨q.2, this.2⟩

theorem read_none : readP none4 = none := by decide +kernel

/-- What Print tells, Parse reads as the set. -/
theorem parse_print {s : Nat} (hs : s < 4294967296) : parseP (pr s) = (s, 0) := by
  by_cases h : s = 0
  · subst h; rfl
  · have hr := read_print hs h
    have hn : pr s ≠ none4 := fun e => by rw [e, read_none] at hr; cases hr
    unfold parseP
    rw [if_neg hn, hr]
    simp

theorem print_inj {a b : Nat} (ha : a < 4294967296) (hb : b < 4294967296) : (pr a = pr b) ↔ a = b := by
  constructor
  · intro h
    have h1 := parse_print ha
    rw [h, parse_print hb] at h1
    exact (congrArg Prod.fst h1).symm
  · rintro rfl; rfl

theorem parse_back (l : List UInt8) : (parseP l = (0, 100)) ∨ ((parseP l).2 = 0 ∧ pr (parseP l).1 = l) := by
  unfold parseP
  by_cases h : l = none4
  · subst h; right; exact ⟨by simp, by simp [pr]⟩
  · rw [if_neg h]
    cases hr : readP l with
    | none => left; rfl
    | some s =>
      by_cases h2 : pr s = l
      · right; simp [h2]
      · left; simp [h2]

theorem dig_dec : ∀ n : Fin 32, Lib.decDigits n.val = dig n.val := by decide +kernel

end Go.Proofs.YtebdlcgegdobkaaDoor
