/- The chapter's numbers, plain: sixteen clients, eight replies, what is refused. -/
import Derived.Test.YthjggjjocfbjcaaKeepP
import Derived.Test.YthjggjjocfbjcaaAsk
namespace Go.Proofs.Ythjggjjocfbjcaa


/-- The clients behind j looks: 17 - j to 16. -/
def cj (j : Nat) : List PC := (List.range j).map fun i => (((17 - j + i : Nat) : Int), 0, [])
/-- The sixteen clients, the third with i replies kept: 2, 4 .. -/
def dj (i : Nat) : List PC := (cj 16).map fun c => if c.1 = 3 then (3, 0, (List.range i).map fun k => (((2 * (k + 1) : Nat) : Int), [])) else c

set_option maxRecDepth 100000 in
theorem cj_look : ∀ j : Fin 16, lookP (cj j) ((16 - j.val : Nat) : Int) 1 0 = (cj (j + 1), 1, [], 0) := by
  rintro ⟨j, hj⟩
  have hc : j = 0 ∨ j = 1 ∨ j = 2 ∨ j = 3 ∨ j = 4 ∨ j = 5 ∨ j = 6 ∨ j = 7 ∨ j = 8 ∨ j = 9 ∨ j = 10 ∨ j = 11 ∨ j = 12 ∨ j = 13 ∨ j = 14 ∨ j = 15 := by omega
  rcases hc with h | h | h | h | h | h | h | h | h | h | h | h | h | h | h | h
  all_goals
    subst h
    show lookP _ _ _ _ = _
    kernel_rfl
set_option maxRecDepth 100000 in
theorem dj_done : ∀ i : Fin 8, doneP (dj i) 3 ((2 * (i.val + 1) : Nat) : Int) [] = (dj (i + 1), 0) := by
  rintro ⟨j, hj⟩
  have hc : j = 0 ∨ j = 1 ∨ j = 2 ∨ j = 3 ∨ j = 4 ∨ j = 5 ∨ j = 6 ∨ j = 7 := by omega
  rcases hc with h | h | h | h | h | h | h | h
  all_goals
    subst h
    show doneP _ _ _ _ = _
    kernel_rfl
theorem dj_zero : dj 0 = cj 16 := by kernel_rfl
theorem cj_full : lookP (cj 16) 17 1 0 = ([], 0, [], 5) := by kernel_rfl
theorem cj_again : lookP (cj 16) 3 1 0 = (cj 16, 1, [], 0) := by kernel_rfl
theorem dj_busy : lookP (dj 8) 3 3 0 = (dj 8, 4, [], 0) := by kernel_rfl
theorem dj_free : (lookP (dj 8) 3 5 2).2 = (1, [], 0) := by kernel_rfl
theorem dj_five : doneP (dj 8) 3 3 [] = ([], 5) := by kernel_rfl
theorem dj_two : doneP (dj 8) 3 2 [] = ([], 2) := by kernel_rfl
theorem dj_none : doneP (dj 8) 99 1 [] = ([], 2) := by kernel_rfl
theorem dj_four : (doneP (dj 8) 4 1 []).2 = 0 := by kernel_rfl
theorem cj_len : ∀ j : Fin 17, (cj j).length = j := by decide +kernel

theorem done_long {l : List PC} {c r : Int} {reply : List UInt8} (h : (doneP l c r []).2 = 0) (hl : 65536 < reply.length) : doneP l c r reply = ([], 3) := by
  unfold doneP at h ⊢
  split at h
  · simp at h
  · rename_i h1
    rw [if_neg h1]
    split at h
    · simp at h
    · rename_i h2
      rw [if_neg h2]
      split at h
      · simp at h
      · rename_i h3
        rw [if_neg h3, if_pos hl]

theorem done_short {l : List PC} {c r : Int} {reply : List UInt8} (h : (doneP l c r []).2 = 0) (hl : reply.length ≤ 65536) : (doneP l c r reply).2 = 0 := by
  unfold doneP at h ⊢
  split at h
  · simp at h
  · rename_i h1
    rw [if_neg h1]
    split at h
    · simp at h
    · rename_i h2
      rw [if_neg h2]
      split at h
      · simp at h
      · rename_i h3
        rw [if_neg h3, if_neg (by omega)]
        split at h
        · simp at h
        · split at h
          · simp at h
          · rename_i h5
            rw [if_neg h5]

/-- Numbers that Look refuses, whatever the clients. -/
theorem look_refused (l : List PC) (c r a : Int) (h : ¬ ((1 ≤ c ∧ c ≤ MM) ∧ (1 ≤ r ∧ r ≤ MM) ∧ 0 ≤ a ∧ a < r)) : lookP l c r a = ([], 0, [], 2) := by
  have hb : lookBad l c r a = true := by
    cases hb : lookBad l c r a with
    | true => rfl
    | false =>
      refine absurd ?_ h
      unfold lookBad numP at hb
      simp only [Bool.or_eq_false_iff, Bool.not_eq_false', Bool.and_eq_true, decide_eq_true_eq, decide_eq_false_iff_not] at hb
      omega
  unfold lookP
  rw [hb]
  rfl
theorem look_wrong (l : List PC) (c r a : Int) (h : rightP l = false) : lookP l c r a = ([], 0, [], 2) := by
  unfold lookP lookBad
  rw [h]
  rfl

/-- The clients 1 to n, none of which keeps anything; the requests 1 to n, with no bytes. -/
def mj (n : Nat) : List PC := (List.range n).map fun i => (((i + 1 : Nat) : Int), 0, [])
def kj (n : Nat) : List PK := (List.range n).map fun i => (((i + 1 : Nat) : Int), [])
theorem mj_right : rightP (mj 16) = true := by decide +kernel
theorem kj_right : rightP [(1, 0, kj 8)] = true := by decide +kernel
theorem mj_wrong : rightP (mj 17) = false := by decide +kernel
theorem kj_wrong : rightP [(1, 0, kj 9)] = false := by decide +kernel
theorem w_zero : rightP [(0, 0, [])] = false := by decide +kernel
theorem w_twice : rightP [(2, 0, []), (2, 0, [])] = false := by decide +kernel
theorem w_floor : rightP [(1, -1, [])] = false := by decide +kernel
theorem w_low : rightP [(1, 3, [(3, [])])] = false := by decide +kernel
theorem w_nine : rightP [(1, 0, List.replicate 9 (0, []))] = false := by decide +kernel
theorem w_many : rightP (List.replicate 17 (0, 0, [])) = false := by decide +kernel

/-- The asker 5 behind i requests. -/
def aj (i : Nat) : PA := (5, ((i + 1 : Nat) : Int), 0, kj i)
theorem aj_ask : ∀ i : Fin 8, askP (aj i) [] = (aj (i + 1), ((i.val + 1 : Nat) : Int), 0) := by
  rintro ⟨j, hj⟩
  have hc : j = 0 ∨ j = 1 ∨ j = 2 ∨ j = 3 ∨ j = 4 ∨ j = 5 ∨ j = 6 ∨ j = 7 := by omega
  rcases hc with h | h | h | h | h | h | h | h
  all_goals
    subst h
    show askP _ _ = _
    kernel_rfl
theorem aj_busy : askP (aj 8) [] = ((0, 0, 0, []), 0, 7) := by kernel_rfl
def bj : PA := (5, 9, 0, (kj 8).filter fun k => !(k.1 == 2))
theorem aj_take : takeP (aj 8) 2 = (bj, true, 0) := by kernel_rfl
theorem bj_busy : askP bj [] = ((0, 0, 0, []), 0, 7) := by kernel_rfl
theorem bj_take : takeP bj 2 = (bj, false, 0) := by kernel_rfl
def ej : PA := (5, 9, 2, (kj 8).drop 2)
theorem bj_first : takeP bj 1 = (ej, true, 0) := by kernel_rfl
theorem ej_next : (askP ej []).2 = (9, 0) := by kernel_rfl
theorem ask_long {a : PA} {body : List UInt8} (h : rightA a = true) (hl : 65536 < body.length) : askP a body = ((0, 0, 0, []), 0, 3) := by
  unfold askP
  rw [h, if_neg (by simp), if_pos hl]
theorem ej_right : rightA ej = true := by decide +kernel
theorem a_wrong : askP (1, 2, 0, []) [] = ((0, 0, 0, []), 0, 2) := by kernel_rfl
theorem a_end : askP (1, 4611686018427387904, 4611686018427387903, []) [] = ((0, 0, 0, []), 0, 5) := by kernel_rfl
theorem a_end_right : rightA (1, 4611686018427387904, 4611686018427387903, []) = true := by decide +kernel

end Go.Proofs.Ythjggjjocfbjcaa
