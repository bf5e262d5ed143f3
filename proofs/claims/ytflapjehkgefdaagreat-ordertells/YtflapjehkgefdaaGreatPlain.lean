/- Accounts as plain data: names, which list is a right tree, the place of a name, paths. -/
import Derived.Test.YtflapjehkgefdaaGreatBase
namespace Go.Proofs.YtflapjehkgefdaaGreat
open Go.RowKit

/-- An account: its name, its parent's name, its limit. -/
abbrev Acc := ByteArray × ByteArray × Int

def accAt (L : List Acc) (i : Nat) : Acc := L.getD i (ByteArray.empty, ByteArray.empty, 0)

theorem accAt_eq {L : List Acc} {i : Nat} (h : i < L.length) : L[i] = accAt L i := by simp [accAt, h]

theorem accAt_take {L : List Acc} {i k : Nat} (h : i < k) : accAt (L.take k) i = accAt L i := by
  simp only [accAt, List.getD_eq_getElem?_getD, List.getElem?_take, if_pos h]

/-- The place of the first account of that name. -/
def fi : List Acc → ByteArray → Option Nat
  | [], _ => none
  | a :: r, n => if a.1 = n then some 0 else (fi r n).map (· + 1)

theorem fi_is : ∀ (L : List Acc) (n : ByteArray) (i : Nat), fi L n = some i ↔ i < L.length ∧ (accAt L i).1 = n ∧ ∀ j, j < i → (accAt L j).1 ≠ n
  | [], n, i => by simp [fi]
  | a :: r, n, i => by
    by_cases h : a.1 = n
    · simp only [fi, if_pos h, Option.some.injEq]
      constructor
      · intro e; subst e
        exact ⟨by simp, by simpa [accAt] using h, fun j hj => by omega⟩
      · rintro ⟨_, _, h3⟩
        rcases Nat.eq_zero_or_pos i with h0 | h0
        · exact h0.symm
        · exact absurd (by simpa [accAt] using h) (h3 0 h0)
    · simp only [fi, if_neg h, Option.map_eq_some_iff]
      constructor
      · rintro ⟨k, hk, rfl⟩
        obtain ⟨h1, h2, h3⟩ := (fi_is r n k).1 hk
        refine ⟨by simpa using h1, by simpa [accAt] using h2, fun j hj => ?_⟩
        cases j with
        | zero => simpa [accAt] using h
        | succ j => simpa [accAt] using h3 j (by omega)
      · rintro ⟨h1, h2, h3⟩
        cases i with
        | zero => exact absurd (by simpa [accAt] using h2) h
        | succ k =>
          refine ⟨k, (fi_is r n k).2 ⟨by simpa using h1, by simpa [accAt] using h2, fun j hj => ?_⟩, rfl⟩
          simpa [accAt] using h3 (j + 1) (by omega)

theorem fi_no : ∀ (L : List Acc) (n : ByteArray), fi L n = none ↔ ∀ j, j < L.length → (accAt L j).1 ≠ n
  | [], n => by simp [fi]
  | a :: r, n => by
    by_cases h : a.1 = n
    · simp only [fi, if_pos h]
      constructor
      · intro e; cases e
      · intro h1; exact absurd (by simpa [accAt] using h) (h1 0 (by simp))
    · simp only [fi, if_neg h, Option.map_eq_none_iff, fi_no r n]
      constructor
      · intro h1 j hj
        cases j with
        | zero => simpa [accAt] using h
        | succ j => simpa [accAt] using h1 j (by simpa using hj)
      · intro h1 j hj
        simpa [accAt] using h1 (j + 1) (by simpa using hj)

theorem fi_lt {L : List Acc} {n : ByteArray} {i : Nat} (h : fi L n = some i) : i < L.length := ((fi_is L n i).1 h).1
theorem fi_name {L : List Acc} {n : ByteArray} {i : Nat} (h : fi L n = some i) : (accAt L i).1 = n := ((fi_is L n i).1 h).2.1

theorem fi_take {L : List Acc} {n : ByteArray} {i k : Nat} (h : fi (L.take k) n = some i) : fi L n = some i ∧ i < k := by
  obtain ⟨h1, h2, h3⟩ := (fi_is _ n i).1 h
  rw [List.length_take] at h1
  have hk : i < k := by omega
  rw [accAt_take hk] at h2
  refine ⟨(fi_is L n i).2 ⟨by omega, h2, fun j hj => ?_⟩, hk⟩
  have := h3 j hj
  rwa [accAt_take (by omega)] at this

theorem fi_take_no {L : List Acc} {n : ByteArray} {k : Nat} (h : fi L n = none) : fi (L.take k) n = none := by
  cases e : fi (L.take k) n with
  | none => rfl
  | some i => rw [(fi_take e).1] at h; cases h

/-- A byte that may stand first in a name. -/
def letB (b : UInt8) : Bool := decide (97 ≤ b.toNat ∧ b.toNat ≤ 122)
/-- No letter, and may stand behind the first. -/
def othB (b : UInt8) : Bool := decide ((48 ≤ b.toNat ∧ b.toNat ≤ 57) ∨ b.toNat = 45 ∨ b.toNat = 95)
def okAt (s : ByteArray) (i : Nat) : Bool := letB (s.get! i) || (decide (i ≠ 0) && othB (s.get! i))
def nameB (s : ByteArray) : Bool := decide (1 ≤ s.size ∧ s.size ≤ 16 ∧ ∀ i, i < s.size → okAt s i = true)
def limB (n : Int) : Bool := decide (-1 ≤ n ∧ n ≤ 1073741824)
def fitsB (A : List Acc) (x : Acc) : Bool := (fi A x.1).isNone && (nameB x.1 && ((fi A x.2.1).isSome || decide (x.2.1 = ByteArray.empty)) && limB x.2.2)
def rightB (L : List Acc) : Bool := decide (1 ≤ L.length ∧ L.length ≤ 16 ∧ ∀ i, i < L.length → fitsB (L.take i) (accAt L i) = true)

theorem right_is {L : List Acc} : rightB L = true ↔ 1 ≤ L.length ∧ L.length ≤ 16 ∧ ∀ i, i < L.length → fitsB (L.take i) (accAt L i) = true := by
  unfold rightB; rw [decide_eq_true_eq]

theorem fits_is {A : List Acc} {x : Acc} (h : fitsB A x = true) : fi A x.1 = none ∧ nameB x.1 = true ∧ ((∃ j, fi A x.2.1 = some j) ∨ x.2.1 = ByteArray.empty) ∧ limB x.2.2 = true := by
  unfold fitsB at h
  simp only [Bool.and_eq_true, Bool.or_eq_true, Option.isNone_iff_eq_none, decide_eq_true_eq, Option.isSome_iff_exists] at h
  exact ⟨h.1, h.2.1.1, h.2.1.2, h.2.2⟩

theorem name_empty : nameB ByteArray.empty = false := by decide

theorem right_name {L : List Acc} (hR : rightB L = true) {i : Nat} (hi : i < L.length) : fi L (accAt L i).1 = some i := by
  have h := (fits_is ((right_is.1 hR).2.2 i hi)).1
  refine (fi_is L _ i).2 ⟨hi, rfl, fun j hj => ?_⟩
  have h2 := (fi_no _ _).1 h j (by rw [List.length_take]; omega)
  rwa [accAt_take hj] at h2

theorem right_no_empty {L : List Acc} (hR : rightB L = true) : fi L ByteArray.empty = none := by
  rw [fi_no]
  intro j hj e
  have h := (fits_is ((right_is.1 hR).2.2 j hj)).2.1
  rw [e, name_empty] at h
  cases h

/-- A parent stands ahead. -/
theorem right_up {L : List Acc} (hR : rightB L = true) {i j : Nat} (hi : i < L.length) (h : fi L (accAt L i).2.1 = some j) : j < i := by
  rcases (fits_is ((right_is.1 hR).2.2 i hi)).2.2.1 with ⟨k, hk⟩ | he
  · obtain ⟨h1, h2⟩ := fi_take hk
    rw [h1] at h
    cases h
    exact h2
  · rw [he, right_no_empty hR] at h
    cases h

theorem right_root {L : List Acc} (hR : rightB L = true) {i : Nat} (hi : i < L.length) (h : fi L (accAt L i).2.1 = none) : (accAt L i).2.1 = ByteArray.empty := by
  rcases (fits_is ((right_is.1 hR).2.2 i hi)).2.2.1 with ⟨k, hk⟩ | he
  · rw [(fi_take hk).1] at h; cases h
  · exact he

/-- The names from the account at i upward, at most so many. -/
def ch (L : List Acc) : Nat → Nat → List ByteArray
  | 0, _ => []
  | k + 1, i => (accAt L i).1 :: match fi L (accAt L i).2.1 with
    | none => []
    | some j => ch L k j

theorem ch_more {L : List Acc} (hR : rightB L = true) (i : Nat) : ∀ (k k' : Nat), i < L.length → i < k → i < k' → ch L k i = ch L k' i := by
  induction i using Nat.strongRecOn with
  | _ i ih =>
    intro k k' hi hk hk'
    obtain ⟨k, rfl⟩ : ∃ q, k = q + 1 := ⟨k - 1, by omega⟩
    obtain ⟨k', rfl⟩ : ∃ q, k' = q + 1 := ⟨k' - 1, by omega⟩
    simp only [ch]
    cases e : fi L (accAt L i).2.1 with
    | none => rfl
    | some j =>
      have hj := right_up hR hi e
      simp only []
      rw [ih j hj k k' (fi_lt e) (by omega) (by omega)]

/-- The path of a name. -/
def pathP (L : List Acc) (n : ByteArray) : List ByteArray :=
  match fi L n with
  | none => []
  | some i => ch L (i + 1) i

theorem path_no {L : List Acc} {n : ByteArray} (h : fi L n = none) : pathP L n = [] := by unfold pathP; rw [h]

theorem path_step {L : List Acc} (hR : rightB L = true) {n : ByteArray} {i : Nat} (h : fi L n = some i) : pathP L n = n :: pathP L (accAt L i).2.1 := by
  have hn := fi_name h
  unfold pathP
  rw [h]
  simp only [ch, hn]
  cases e : fi L (accAt L i).2.1 with
  | none => rfl
  | some j =>
    have hj := right_up hR (fi_lt h) e
    simp only []
    rw [ch_more hR j i (j + 1) (fi_lt e) hj (by omega)]
    rfl

theorem ch_len {L : List Acc} : ∀ (k i : Nat), (ch L k i).length ≤ k
  | 0, i => by simp [ch]
  | k + 1, i => by
    simp only [ch, List.length_cons]
    cases fi L (accAt L i).2.1 with
    | none => simp
    | some j => simp only []; have := ch_len (L := L) k j; omega

theorem path_len {L : List Acc} {n : ByteArray} {i : Nat} (h : fi L n = some i) : (pathP L n).length ≤ i + 1 := by
  unfold pathP; rw [h]; exact ch_len _ _

/-- What stands on a path are names of accounts that stand no later. -/
theorem ch_mem {L : List Acc} (hR : rightB L = true) : ∀ (k i : Nat) (x : ByteArray), i < L.length → x ∈ ch L k i → ∃ j, j ≤ i ∧ (accAt L j).1 = x
  | 0, i, x, _, h => by simp [ch] at h
  | k + 1, i, x, hi, h => by
    simp only [ch, List.mem_cons] at h
    rcases h with rfl | h
    · exact ⟨i, Nat.le_refl _, rfl⟩
    · cases e : fi L (accAt L i).2.1 with
      | none => rw [e] at h; simp at h
      | some j =>
        rw [e] at h
        have hj := right_up hR hi e
        obtain ⟨q, hq, hx⟩ := ch_mem hR k j x (fi_lt e) h
        exact ⟨q, by omega, hx⟩

theorem path_mem {L : List Acc} (hR : rightB L = true) {n x : ByteArray} {i : Nat} (h : fi L n = some i) (hx : x ∈ pathP L n) : ∃ j, j ≤ i ∧ fi L x = some j := by
  unfold pathP at hx
  rw [h] at hx
  obtain ⟨j, hj, rfl⟩ := ch_mem hR _ _ _ (fi_lt h) hx
  have hl := fi_lt h
  exact ⟨j, hj, right_name hR (by omega)⟩

theorem path_nodup {L : List Acc} (hR : rightB L = true) (i : Nat) : ∀ n, fi L n = some i → (pathP L n).Nodup := by
  induction i using Nat.strongRecOn with
  | _ i ih =>
    intro n h
    rw [path_step hR h, List.nodup_cons]
    cases e : fi L (accAt L i).2.1 with
    | none => rw [path_no e]; simp
    | some j =>
      have hj := right_up hR (fi_lt h) e
      refine ⟨fun hm => ?_, ih j hj _ e⟩
      obtain ⟨q, hq, h2⟩ := path_mem hR e hm
      rw [h] at h2
      cases h2
      omega

/-- Does a text stand in a list? -/
def hasB (T : List ByteArray) (n : ByteArray) : Bool := T.any fun x => decide (x = n)

theorem has_is {T : List ByteArray} {n : ByteArray} : hasB T n = true ↔ n ∈ T := by
  unfold hasB
  rw [List.any_eq_true]
  constructor
  · rintro ⟨x, hx, h⟩
    rw [decide_eq_true_eq] at h
    exact h ▸ hx
  · exact fun h => ⟨n, h, by simp⟩

theorem has_no {T : List ByteArray} {n : ByteArray} : hasB T n = false ↔ n ∉ T := by
  rw [← has_is]; simp

def belowP (L : List Acc) (n : ByteArray) : List ByteArray := (L.map (·.1)).filter fun m => hasB (pathP L m) n

theorem below_mem {L : List Acc} {n m : ByteArray} {i : Nat} (h : fi L m = some i) : m ∈ belowP L n ↔ n ∈ pathP L m := by
  unfold belowP
  rw [List.mem_filter, has_is]
  constructor
  · exact fun h => h.2
  · refine fun h2 => ⟨?_, h2⟩
    have hl := fi_lt h
    have hn := fi_name h
    rw [← hn, ← accAt_eq hl]
    exact List.mem_map.2 ⟨_, List.getElem_mem hl, rfl⟩

end Go.Proofs.YtflapjehkgefdaaGreat
