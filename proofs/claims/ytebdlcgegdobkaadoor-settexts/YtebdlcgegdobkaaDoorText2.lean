/- What the document's Print and Parse make of sets and texts; plain. -/
import Derived.Test.YtebdlcgegdobkaaDoorBackWalk
namespace Go.Proofs.YtebdlcgegdobkaaDoor

/-- j is the last node of the run that i stands in. -/
def IsLast (s i j : Nat) : Prop := i ≤ j ∧ (∀ k, i ≤ k → k ≤ j → s.testBit k = true) ∧ s.testBit (j + 1) = false

/-- The runs that begin below i. -/
structure SI (s i : Nat) (Q : List (Nat × Nat)) : Prop where
  no : ¬ Pend s i → Q = (runsTo s i).2
  yes : Pend s i → ∃ j, IsLast s (runsTo s i).1 j ∧ Q = (runsTo s i).2 ++ [((runsTo s i).1, j)]

theorem SI.zero (s : Nat) : SI s 0 [] := ⟨fun _ => rfl, fun h => absurd h.1 (by omega)⟩

theorem SI.none {s i : Nat} {Q : List (Nat × Nat)} (h : SI s i Q) (hb : s.testBit i = false) : SI s (i + 1) Q := by
  have e1 : isFst s i = false := by simp [isFst, hb]
  have e2 : isLst s i = false := by simp [isLst, hb]
  have e : runsTo s (i + 1) = runsTo s i := by simp [runsTo, e1, e2]
  have hp : ¬ Pend s (i + 1) := fun h => by have := h.2.1; simp [hb] at this
  have hp0 : ¬ Pend s i := fun h => by have := h.2.2; simp [hb] at this
  exact ⟨fun _ => by rw [e]; exact h.no hp0, fun h => absurd h hp⟩

theorem SI.on {s i : Nat} {Q : List (Nat × Nat)} (h : SI s i Q) (hp : Pend s i) : SI s (i + 1) Q := by
  have hb := hp.2.2
  have h1 := hp.1
  have h2 := hp.2.1
  have e1 : isFst s i = false := by simp [isFst, hb, h1, h2]
  obtain ⟨j, hj, hQ⟩ := h.yes hp
  have hf := (runInv s i).open_ hp
  have hall : ∀ k, (runsTo s i).1 ≤ k → k ≤ i → s.testBit k = true := fun k hk hki => by
    rcases Nat.lt_or_ge k i with h3 | h3
    · exact (((runInv s i).all k).2 (.inr ⟨hp, hk, h3⟩)).2
    · have : k = i := by omega
      subst this; exact hb
  cases hn : s.testBit (i + 1)
  · have e2 : isLst s i = true := by simp [isLst, hb, hn]
    have e : runsTo s (i + 1) = ((runsTo s i).1, (runsTo s i).2 ++ [((runsTo s i).1, i)]) := by simp [runsTo, e1, e2]
    have hji : j = i := by
      rcases Nat.lt_trichotomy j i with h3 | h3 | h3
      · have h4 := hall (j + 1) (by have := hj.1; omega) (by omega)
        rw [hj.2.2] at h4; cases h4
      · exact h3
      · have h4 := hj.2.1 (i + 1) (by omega) (by omega)
        rw [hn] at h4; cases h4
    refine ⟨fun _ => by rw [e, hQ, hji], fun h => ?_⟩
    have := h.2.2
    rw [hn] at this; cases this
  · have e2 : isLst s i = false := by simp [isLst, hn]
    have e : runsTo s (i + 1) = ((runsTo s i).1, (runsTo s i).2) := by simp [runsTo, e1, e2]
    refine ⟨fun h => absurd ⟨by omega, by simpa using hb, hn⟩ h, fun _ => ⟨j, by rw [e]; exact hj, by rw [e]; exact hQ⟩⟩

theorem SI.take {s i j : Nat} {Q : List (Nat × Nat)} (h : SI s i Q) (hf : isFst s i = true) (hj : IsLast s i j) : SI s (i + 1) (Q ++ [(i, j)]) := by
  have hb : s.testBit i = true := by unfold isFst at hf; simp at hf; exact hf.1
  have hp : ¬ Pend s i := fun h => by
    have h1 := h.1
    have h2 := h.2.1
    simp [isFst, hb, h1, h2] at hf
  have hQ := h.no hp
  cases hn : s.testBit (i + 1)
  · have e2 : isLst s i = true := by simp [isLst, hb, hn]
    have e : runsTo s (i + 1) = (i, (runsTo s i).2 ++ [(i, i)]) := by simp [runsTo, hf, e2]
    have hji : j = i := by
      rcases Nat.lt_or_ge i j with h3 | h3
      · have h4 := hj.2.1 (i + 1) (by omega) (by omega)
        rw [hn] at h4; cases h4
      · have := hj.1; omega
    refine ⟨fun _ => by rw [e, hQ, hji], fun h => ?_⟩
    have := h.2.2
    rw [hn] at this; cases this
  · have e2 : isLst s i = false := by simp [isLst, hn]
    have e : runsTo s (i + 1) = (i, (runsTo s i).2) := by simp [runsTo, hf, e2]
    refine ⟨fun h => absurd ⟨by omega, by simpa using hb, hn⟩ h, fun _ => ⟨j, by rw [e]; exact hj, by rw [e, hQ]⟩⟩

theorem SI.fin {s : Nat} {Q : List (Nat × Nat)} (hs : s < 4294967296) (h : SI s 32 Q) : Q = runs s :=
  h.no fun hp => by have := bit_lt hs hp.2.2; omega

theorem join_snoc (Q : List (Nat × Nat)) (r : Nat × Nat) : Lib.join ((Q ++ [r]).map runT) [44] = (if Q = [] then [] else Lib.join (Q.map runT) [44] ++ [44]) ++ runT r := by
  cases Q with
  | nil => simp [Lib.join_one]
  | cons x t =>
    rw [if_neg (by simp)]
    simp only [List.cons_append, List.map_cons, List.map_append, List.map_nil]
    rw [Lib.join_cons, Lib.join_cons]
    simp [Lib.joinTail]

theorem runT_ne (r : Nat × Nat) : runT r ≠ [] := by
  unfold runT dig
  repeat' split
  all_goals simp

theorem join_empty (Q : List (Nat × Nat)) : Lib.join (Q.map runT) [44] = [] ↔ Q = [] := by
  cases Q with
  | nil => simp [Lib.join_nil]
  | cons x t =>
    rw [List.map_cons, Lib.join_cons]
    simp [runT_ne]

/-- The text of runs. -/
def outQ (Q : List (Nat × Nat)) : List UInt8 := Lib.join (Q.map runT) [44]

theorem outQ_len (Q : List (Nat × Nat)) : (outQ Q).length ≤ 6 * Q.length := by
  have h2 := join_len (Q.map runT) (fun x hx => by obtain ⟨r, _, rfl⟩ := List.mem_map.1 hx; exact runT_len r)
  rw [List.length_map] at h2
  exact h2

theorem pr_outQ {s : Nat} (hs : s < 4294967296) : pr s = if outQ (runs s) = [] then none4 else outQ (runs s) := by
  have hje : outQ (runs s) = [] ↔ runs s = [] := join_empty (runs s)
  unfold pr
  by_cases h : s = 0
  · have : runs s = [] := by
      cases e : runs s with
      | nil => rfl
      | cons r t =>
        have h1 := runs_ok (s := s) r (by rw [e]; simp)
        have h2 := (runs_mem hs r.1).2 ⟨r, by rw [e]; simp, Nat.le_refl _, h1.1⟩
        rw [h] at h2; simp at h2
    rw [if_pos h, if_pos (hje.2 this)]
  · rw [if_neg h, if_neg (fun e => runs_ne hs h (hje.1 e))]
    rfl

/-- What the document's reading has: the number ahead of a dash (or -1), the number, the nodes. -/
def RSt := Int × Nat × List Nat

/-- The nodes from f to n. -/
def emit (f n : Nat) : List Nat := (List.range 32).filter fun k => decide (f ≤ k) && decide (k ≤ n)

def readR (st : Int × Nat × List Nat) (c : UInt8) : Int × Nat × List Nat :=
  if 48 ≤ c.toNat ∧ c.toNat ≤ 57 then (st.1, (st.2.1 * 10 + (c.toNat - 48)) % 1000, st.2.2)
  else if c = 45 then ((st.2.1 : Int), 0, st.2.2)
  else if c = 44 then (-1, 0, st.2.2 ++ emit (if st.1 < 0 then st.2.1 else st.1.toNat) st.2.1)
  else st

def listR (l : List UInt8) : List Nat := ((l ++ [44]).foldl readR (-1, 0, [])).2.2

def setR (l : List UInt8) : Nat := if l = none4 then 0 else ofN (listR l)

def parseR (l : List UInt8) : Nat × Int := if pr (setR l) = l then (setR l, 0) else (0, 100)

theorem shift1 (f : Int) (n : Nat) (L : List Nat) (c : UInt8) : readR (f, n, L) c = ((readR (f, n, []) c).1, (readR (f, n, []) c).2.1, L ++ (readR (f, n, []) c).2.2) := by
  unfold readR
  split
  · simp
  · split
    · simp
    · split <;> simp

theorem shiftR (cs : List UInt8) (f : Int) (n : Nat) (L : List Nat) : cs.foldl readR (f, n, L) = ((cs.foldl readR (f, n, [])).1, (cs.foldl readR (f, n, [])).2.1, L ++ (cs.foldl readR (f, n, [])).2.2) := by
  induction cs generalizing f n L with
  | nil => simp
  | cons c t ih =>
    rw [List.foldl_cons, List.foldl_cons, shift1]
    rw [ih (readR (f, n, []) c).1 (readR (f, n, []) c).2.1 (L ++ (readR (f, n, []) c).2.2)]
    obtain ⟨f1, n1, L1⟩ := readR (f, n, []) c
    rw [ih f1 n1 L1]
    simp

theorem runT_readR : ∀ a b : Fin 32, a.val ≤ b.val → (runT (a.val, b.val) ++ [44]).foldl readR (-1, 0, []) = (-1, 0, emit a.val b.val) := by decide +kernel

theorem runs_readR (Q : List (Nat × Nat)) (hok : ∀ r ∈ Q, r.1 ≤ r.2 ∧ r.2 < 32) (L : List Nat) : ((Q.map fun r => runT r ++ [44]).flatten).foldl readR (-1, 0, L) = (-1, 0, L ++ (Q.map fun r => emit r.1 r.2).flatten) := by
  induction Q generalizing L with
  | nil => simp
  | cons r t ih =>
    have h1 := hok r (by simp)
    have h2 := runT_readR ⟨r.1, by omega⟩ ⟨r.2, h1.2⟩ h1.1
    have h3 : (runT r ++ [44]).foldl readR (-1, 0, []) = (-1, 0, emit r.1 r.2) := h2
    simp only [List.map_cons, List.flatten_cons]
    have h4 := shiftR (runT r ++ [44]) (-1) 0 L
    rw [h3] at h4
    rw [List.foldl_append, h4]
    simp only
    rw [ih (fun x hx => hok x (by simp [hx]))]
    simp

theorem join_flat (x : Nat × Nat) (t : List (Nat × Nat)) : outQ (x :: t) ++ [44] = ((x :: t).map fun r => runT r ++ [44]).flatten := by
  induction t generalizing x with
  | nil => simp [outQ, Lib.join_one]
  | cons y u ih =>
    have e : outQ (x :: y :: u) = runT x ++ 44 :: outQ (y :: u) := by
      unfold outQ
      simp only [List.map_cons]
      rw [Lib.join_cons, Lib.join_cons]; simp [Lib.joinTail]
    rw [e]
    have := ih y
    simp only [List.map_cons, List.flatten_cons] at this ⊢
    rw [← this]
    simp

theorem ofN_or (L E : List Nat) : ofN (L ++ E) = ofN L ||| ofN E := by
  apply Nat.eq_of_testBit_eq
  intro i
  rw [Nat.testBit_or, ofN_bit, ofN_bit, ofN_bit]
  simp

theorem ofN_flat (Q : List (Nat × Nat)) (L : List Nat) : ofN (L ++ (Q.map fun r => emit r.1 r.2).flatten) = unionR (ofN L) Q := by
  induction Q generalizing L with
  | nil => simp [unionR]
  | cons r t ih =>
    simp only [List.map_cons, List.flatten_cons]
    rw [← List.append_assoc, ih, ofN_or]
    rfl

theorem setR_pr {s : Nat} (hs : s < 4294967296) : setR (pr s) = s := by
  by_cases h : s = 0
  · subst h; unfold setR; rw [if_pos (by rfl)]
  · have hr := read_print hs h
    have hn : pr s ≠ none4 := fun e => by rw [e, read_none] at hr; cases hr
    unfold setR
    rw [if_neg hn]
    have hne := runs_ne hs h
    unfold listR
    have e : pr s = outQ (runs s) := by unfold pr outQ; rw [if_neg h]
    rw [e]
    cases er : runs s with
    | nil => exact absurd er hne
    | cons x t =>
      rw [join_flat, ← er, runs_readR _ runs_ok]
      rw [ofN_flat]
      exact union_runs hs

theorem emit_lt {f n x : Nat} (h : x ∈ emit f n) : x < 32 := by simp [emit] at h; exact h.1

theorem readR_lt (cs : List UInt8) (f : Int) (n : Nat) (L : List Nat) (h : ∀ x ∈ L, x < 32) : ∀ x ∈ (cs.foldl readR (f, n, L)).2.2, x < 32 := by
  induction cs generalizing f n L with
  | nil => exact h
  | cons c t ih =>
    rw [List.foldl_cons]
    have hL : ∀ x ∈ (readR (f, n, L) c).2.2, x < 32 := ?_
    · exact ih (readR (f, n, L) c).1 (readR (f, n, L) c).2.1 (readR (f, n, L) c).2.2 hL
    unfold readR
    split
    · exact h
    · split
      · exact h
      · split
        · intro x hx
          rcases List.mem_append.1 hx with h1 | h1
          · exact h x h1
          · exact emit_lt h1
        · exact h

theorem setR_lt (l : List UInt8) : setR l < 4294967296 := by
  unfold setR
  split
  · omega
  · exact ofN_lt (readR_lt _ _ _ _ (fun x hx => by simp at hx))

/-- Both readings answer the same. -/
theorem parse_same (l : List UInt8) : parseR l = parseP l := by
  unfold parseR
  split
  · rename_i h
    have h2 := parse_print (setR_lt l)
    rw [h] at h2
    exact h2.symm
  · rename_i h
    rcases parse_back l with h1 | ⟨h1, h2⟩
    · exact h1.symm
    · exfalso
      apply h
      have h3 := setR_pr (parse_lt l)
      rw [h2] at h3
      rw [h3, h2]

end Go.Proofs.YtebdlcgegdobkaaDoor
