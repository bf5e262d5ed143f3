/- Lists by rising numbers: what stands under a number, one more put among them; Look and Done in these words. -/
import Derived.Test.YthjggjjocfbjcaaPlain
namespace Go.Proofs.Ythjggjjocfbjcaa

section
variable {β : Type}

def getG : List (Int × β) → Int → Option β
  | [], _ => none
  | y :: r, c => if y.1 = c then some y.2 else getG r c

def putG : List (Int × β) → Int × β → List (Int × β)
  | [], X => [X]
  | y :: r, X => if X.1 ≤ y.1 then (if y.1 = X.1 then X :: r else X :: y :: r) else y :: putG r X

def Up : Int → List (Int × β) → Prop
  | _, [] => True
  | lo, y :: r => lo < y.1 ∧ Up y.1 r

theorem rise_iff : ∀ (lo hi : Int) (l : List (Int × β)), riseB lo hi (l.map (·.1)) = true ↔ Up lo l ∧ ∀ y ∈ l, y.1 ≤ hi
  | lo, hi, [] => by simp [riseB, Up]
  | lo, hi, y :: r => by
    simp only [List.map_cons, riseB, Up, Bool.and_eq_true, decide_eq_true_eq, rise_iff y.1 hi r, List.forall_mem_cons]
    constructor
    · rintro ⟨⟨h1, h2⟩, h3, h4⟩; exact ⟨⟨h1, h3⟩, h2, h4⟩
    · rintro ⟨⟨h1, h3⟩, h2, h4⟩; exact ⟨⟨h1, h2⟩, h3, h4⟩

theorem Up.le {lo lo' : Int} : ∀ {l : List (Int × β)}, Up lo l → lo' ≤ lo → Up lo' l
  | [], _, _ => trivial
  | _ :: _, h, hl => ⟨by have := h.1; omega, h.2⟩

theorem Up.mem {lo : Int} : ∀ {l : List (Int × β)}, Up lo l → ∀ y ∈ l, lo < y.1
  | [], _, y, hy => by simp at hy
  | x :: r, h, y, hy => by
    rcases List.mem_cons.1 hy with rfl | hy
    · exact h.1
    · have := Up.mem h.2 y hy
      have := h.1
      omega

theorem get_none {lo : Int} : ∀ {l : List (Int × β)} {c : Int}, (∀ y ∈ l, lo < y.1) → c ≤ lo → getG l c = none
  | [], _, _, _ => rfl
  | y :: r, c, h, hc => by
    have h1 := h y (by simp)
    simp only [getG]
    rw [if_neg (by omega)]
    exact get_none (fun z hz => h z (by simp [hz])) hc

theorem place_some {lo : Int} : ∀ {l : List (Int × β)} (c : Int), Up lo l → (placeP c (l.map (·.1))).2 = (getG l c).isSome
  | [], c, _ => rfl
  | y :: r, c, h => by
    simp only [List.map_cons, placeP, getG]
    by_cases h1 : c ≤ y.1
    · rw [if_pos h1]
      by_cases h2 : y.1 = c
      · rw [if_pos h2]; simp [h2]
      · rw [if_neg h2, get_none (lo := y.1) (fun z hz => Up.mem h.2 z hz) h1]
        simp [h2]
    · rw [if_neg h1, if_neg (by omega)]
      exact place_some c h.2

theorem place_at_get {lo : Int} : ∀ {l : List (Int × β)} (c : Int), Up lo l → (placeP c (l.map (·.1))).2 = true → ∃ v, getG l c = some v ∧ l[(placeP c (l.map (·.1))).1]? = some (c, v)
  | [], c, _, h => by simp [placeP] at h
  | y :: r, c, h, hk => by
    simp only [List.map_cons, placeP, getG] at hk ⊢
    by_cases h1 : c ≤ y.1
    · rw [if_pos h1] at hk ⊢
      have h2 : y.1 = c := by simpa using hk
      rw [if_pos h2]
      refine ⟨y.2, rfl, ?_⟩
      simp [← h2]
    · rw [if_neg h1] at hk ⊢
      rw [if_neg (by omega)]
      obtain ⟨v, hv, hl⟩ := place_at_get c h.2 hk
      exact ⟨v, hv, by simpa using hl⟩

theorem put_new : ∀ (l : List (Int × β)) (X : Int × β), (placeP X.1 (l.map (·.1))).2 = false → l.take (placeP X.1 (l.map (·.1))).1 ++ X :: l.drop (placeP X.1 (l.map (·.1))).1 = putG l X
  | [], X, _ => rfl
  | y :: r, X, h => by
    simp only [List.map_cons, placeP, putG] at h ⊢
    by_cases h1 : X.1 ≤ y.1
    · rw [if_pos h1] at h ⊢
      have h2 : ¬ y.1 = X.1 := by simpa using h
      rw [if_pos h1, if_neg h2]
      rfl
    · rw [if_neg h1] at h ⊢
      rw [if_neg h1]
      have := put_new r X h
      simp only [List.take_succ_cons, List.drop_succ_cons, List.cons_append]
      rw [this]

theorem put_old : ∀ (l : List (Int × β)) (X : Int × β), (placeP X.1 (l.map (·.1))).2 = true → l.set (placeP X.1 (l.map (·.1))).1 X = putG l X
  | [], X, h => by simp [placeP] at h
  | y :: r, X, h => by
    simp only [List.map_cons, placeP, putG] at h ⊢
    by_cases h1 : X.1 ≤ y.1
    · rw [if_pos h1] at h ⊢
      have h2 : y.1 = X.1 := by simpa using h
      rw [if_pos h1, if_pos h2]
      rfl
    · rw [if_neg h1] at h ⊢
      rw [if_neg h1]
      have := put_old r X h
      simp only [List.set_cons_succ]
      rw [this]

theorem get_put : ∀ (l : List (Int × β)) (X : Int × β) (c : Int), getG (putG l X) c = if X.1 = c then some X.2 else getG l c
  | [], X, c => by simp [putG, getG]
  | y :: r, X, c => by
    simp only [putG]
    by_cases h1 : X.1 ≤ y.1
    · rw [if_pos h1]
      by_cases h2 : y.1 = X.1
      · rw [if_pos h2]
        simp only [getG]
        by_cases h3 : X.1 = c
        · rw [if_pos h3, if_pos h3]
        · rw [if_neg h3, if_neg h3, if_neg (by omega)]
      · rw [if_neg h2]
        simp only [getG]
    · rw [if_neg h1]
      simp only [getG, get_put r X c]
      by_cases h3 : y.1 = c
      · rw [if_pos h3, if_neg (by omega), if_pos h3]
      · rw [if_neg h3, if_neg h3]

theorem up_put : ∀ (lo : Int) (l : List (Int × β)) (X : Int × β), Up lo l → lo < X.1 → Up lo (putG l X)
  | lo, [], X, _, h => ⟨h, trivial⟩
  | lo, y :: r, X, h, hX => by
    simp only [putG]
    by_cases h1 : X.1 ≤ y.1
    · rw [if_pos h1]
      by_cases h2 : y.1 = X.1
      · rw [if_pos h2]; exact ⟨hX, by rw [← h2]; exact h.2⟩
      · rw [if_neg h2]; exact ⟨hX, by omega, h.2⟩
    · rw [if_neg h1]
      exact ⟨h.1, up_put y.1 r X h.2 (by omega)⟩

theorem mem_put : ∀ (l : List (Int × β)) (X y : Int × β), y ∈ putG l X → y = X ∨ y ∈ l
  | [], X, y, h => by simp [putG] at h; exact .inl h
  | z :: r, X, y, h => by
    simp only [putG] at h
    split at h
    · split at h
      · rcases List.mem_cons.1 h with h | h
        · exact .inl h
        · exact .inr (by simp [h])
      · rcases List.mem_cons.1 h with h | h
        · exact .inl h
        · exact .inr h
    · rcases List.mem_cons.1 h with h | h
      · exact .inr (by simp [h])
      · rcases mem_put r X y h with h | h
        · exact .inl h
        · exact .inr (by simp [h])

theorem len_put {lo : Int} : ∀ (l : List (Int × β)) (X : Int × β), Up lo l → (putG l X).length = if (getG l X.1).isSome then l.length else l.length + 1
  | [], X, _ => rfl
  | y :: r, X, h => by
    simp only [putG]
    by_cases h1 : X.1 ≤ y.1
    · rw [if_pos h1]
      by_cases h2 : y.1 = X.1
      · have hg : getG (y :: r) X.1 = some y.2 := by simp [getG, h2]
        rw [if_pos h2]; simp [hg]
      · have hg : getG (y :: r) X.1 = none := by
          simp only [getG]
          rw [if_neg h2, get_none (lo := y.1) (fun z hz => Up.mem h.2 z hz) h1]
        rw [if_neg h2]; simp [hg]
    · have hg : getG (y :: r) X.1 = getG r X.1 := by
        simp only [getG]
        rw [if_neg (by omega)]
      rw [if_neg h1]
      simp only [List.length_cons, len_put r X h.2, hg]
      split <;> rfl

theorem get_filter (M c : Int) : ∀ (l : List (Int × β)), getG (l.filter fun k => !decide (k.1 ≤ M)) c = if c ≤ M then none else getG l c
  | [] => by simp [getG]
  | y :: r => by
    have ih := get_filter M c r
    by_cases h1 : y.1 ≤ M
    · rw [List.filter_cons_of_neg (by simp [h1]), ih]
      simp only [getG]
      by_cases h2 : c ≤ M
      · rw [if_pos h2, if_pos h2]
      · rw [if_neg h2, if_neg h2, if_neg (by omega)]
    · rw [List.filter_cons_of_pos (by simpa using h1)]
      simp only [getG, ih]
      by_cases h2 : c ≤ M
      · rw [if_pos h2, if_neg (by omega), if_pos h2]
      · rw [if_neg h2, if_neg h2]

theorem up_filter (M : Int) : ∀ (lo : Int) (l : List (Int × β)), Up lo l → Up (max lo M) (l.filter fun k => !decide (k.1 ≤ M))
  | _, [], _ => trivial
  | lo, y :: r, h => by
    have ih := up_filter M y.1 r h.2
    have h0 := h.1
    by_cases h1 : y.1 ≤ M
    · rw [List.filter_cons_of_neg (by simp [h1])]
      exact ih.le (by omega)
    · rw [List.filter_cons_of_pos (by simpa using h1)]
      exact ⟨by omega, ih.le (by omega)⟩

theorem get_mem : ∀ {l : List (Int × β)} {c : Int} {v : β}, getG l c = some v → (c, v) ∈ l
  | [], c, v, h => by simp [getG] at h
  | y :: r, c, v, h => by
    simp only [getG] at h
    split at h
    · rename_i h1
      have := Option.some.inj h
      subst this
      rw [← h1]; simp
    · simp [get_mem h]

theorem up_get {lo : Int} : ∀ {l : List (Int × β)} {y : Int × β}, Up lo l → y ∈ l → getG l y.1 = some y.2
  | [], y, _, h => by simp at h
  | x :: r, y, h, hy => by
    simp only [getG]
    rcases List.mem_cons.1 hy with rfl | hy
    · rw [if_pos rfl]
    · have := Up.mem h.2 y hy
      rw [if_neg (by omega)]
      exact up_get h.2 hy

theorem up_filter_self {M lo : Int} {l : List (Int × β)} (h : Up lo l) (hM : M ≤ lo) : (l.filter fun k => !decide (k.1 ≤ M)) = l :=
  List.filter_eq_self.2 (fun k hk => by have := Up.mem h k hk; simp; omega)
end

/-- Right clients, in these words. -/
structure RightC (l : List PC) : Prop where
  len : l.length ≤ 16
  up : Up 0 l
  most : ∀ y ∈ l, y.1 ≤ MM
  floor : ∀ y ∈ l, 0 ≤ y.2.1 ∧ y.2.1 ≤ MM
  kept : ∀ y ∈ l, y.2.2.length ≤ 8
  kup : ∀ y ∈ l, Up y.2.1 y.2.2
  kmost : ∀ y ∈ l, ∀ k ∈ y.2.2, k.1 ≤ MM

theorem right_iff (l : List PC) : rightP l = true ↔ RightC l := by
  unfold rightP
  simp only [Bool.and_eq_true, decide_eq_true_eq, List.all_eq_true, okC]
  rw [rise_iff]
  constructor
  · rintro ⟨⟨h1, h2, h3⟩, h4⟩
    exact ⟨h1, h2, h3, fun y hy => (h4 y hy).1.1, fun y hy => (h4 y hy).1.2, fun y hy => ((rise_iff _ _ _).1 (h4 y hy).2).1, fun y hy => ((rise_iff _ _ _).1 (h4 y hy).2).2⟩
  · intro h
    exact ⟨⟨h.len, h.up, h.most⟩, fun y hy => ⟨⟨h.floor y hy, h.kept y hy⟩, (rise_iff _ _ _).2 ⟨h.kup y hy, h.kmost y hy⟩⟩⟩

/-- What is known of a client: its floor and what is kept. -/
def curC (l : List PC) (c : Int) : Int × List PK := (getG l c).getD (0, [])

/-- What may be known of a client. -/
structure GoodC (v : Int × List PK) : Prop where
  floor : 0 ≤ v.1 ∧ v.1 ≤ MM
  kept : v.2.length ≤ 8
  kup : Up v.1 v.2
  kmost : ∀ k ∈ v.2, k.1 ≤ MM

theorem RightC.cur {l : List PC} (h : RightC l) (c : Int) : GoodC (curC l c) := by
  unfold curC
  cases hg : getG l c with
  | none => exact ⟨⟨by simp, by simp [MM]⟩, by simp, trivial, by simp⟩
  | some v =>
    have hm := get_mem hg
    exact ⟨h.floor _ hm, h.kept _ hm, h.kup _ hm, h.kmost _ hm⟩

theorem RightC.put {l : List PC} (h : RightC l) (c : Int) (v : Int × List PK) (hc : 1 ≤ c ∧ c ≤ MM) (hv : GoodC v) (hl : (getG l c).isSome = true ∨ l.length < 16) : RightC (putG l (c, v)) := by
  have key : ∀ {P : PC → Prop}, (∀ y ∈ l, P y) → P (c, v) → ∀ y ∈ putG l (c, v), P y := fun hP hX y hy => by
    rcases mem_put l (c, v) y hy with rfl | h1
    · exact hX
    · exact hP y h1
  refine ⟨?_, up_put 0 l _ h.up (by show 0 < c; omega), key h.most hc.2, key h.floor hv.floor, key h.kept hv.kept, key h.kup hv.kup, key h.kmost hv.kmost⟩
  rw [len_put l (c, v) h.up]
  split
  · exact h.len
  · rename_i hn
    rcases hl with h1 | h1
    · exact absurd h1 hn
    · omega

/-- settled, in these words. -/
def setC (v : Int × List PK) (a : Int) : Int × List PK := (max v.1 a, v.2.filter fun k => !decide (k.1 ≤ max v.1 a))

theorem GoodC.set {v : Int × List PK} (h : GoodC v) (a : Int) (ha : a ≤ MM) : GoodC (setC v a) := by
  refine ⟨⟨by have := h.floor; simp only [setC]; omega, by have := h.floor; simp only [setC]; omega⟩, ?_, ?_, ?_⟩
  · exact Nat.le_trans (List.length_filter_le _ _) h.kept
  · have := up_filter (max v.1 a) v.1 v.2 h.kup
    exact this.le (by simp only [setC]; omega)
  · intro k hk
    exact h.kmost k (List.mem_filter.1 hk).1

/-- judged, in these words. -/
def judC (v : Int × List PK) (r : Int) : Int × List UInt8 :=
  if r ≤ v.1 then (3, []) else match getG v.2 r with
    | some b => (2, b)
    | none => if v.2.length = 8 then (4, []) else (1, [])

theorem judge_eq (c : Int) (v : Int × List PK) (h : Up v.1 v.2) (r : Int) : judgeP (c, v) r = judC v r := by
  unfold judgeP judC
  show (if r ≤ v.1 then _ else if (placeP r (v.2.map (·.1))).2 = true then _ else if v.2.length = 8 then _ else _) = _
  by_cases h1 : r ≤ v.1
  · rw [if_pos h1, if_pos h1]
  · rw [if_neg h1, if_neg h1]
    have hs := place_some r h
    cases hg : getG v.2 r with
    | none =>
      rw [hg] at hs
      rw [hs]
      simp
    | some b =>
      rw [hg] at hs
      obtain ⟨x, hx, hl⟩ := place_at_get r h (by rw [hs]; rfl)
      rw [hg] at hx
      cases hx
      simp only [Option.isSome_some] at hs
      rw [hs, if_pos rfl]
      show (2, ((v.2[(placeP r (v.2.map (·.1))).1]?).map (·.2)).getD []) = _
      rw [hl]
      rfl

/-- Look in these words. -/
theorem look_eq (l : List PC) (c r a : Int) (h : RightC l) (hc : 1 ≤ c ∧ c ≤ MM) (hr : 1 ≤ r ∧ r ≤ MM) (ha : 0 ≤ a ∧ a < r) :
    lookP l c r a = if (getG l c).isSome = true ∨ l.length < 16 then (putG l (c, setC (curC l c) a), (judC (setC (curC l c) a) r).1, (judC (setC (curC l c) a) r).2, 0) else ([], 0, [], 5) := by
  have hb : lookBad l c r a = false := by
    unfold lookBad numP
    rw [(right_iff l).2 h, decide_eq_true hc.1, decide_eq_true hc.2, decide_eq_true hr.1, decide_eq_true hr.2, decide_eq_false (by omega : ¬ a < 0), decide_eq_false (by omega : ¬ r ≤ a)]
    rfl
  have hp := place_some (l := l) c h.up
  have hlen := h.len
  have hX : lookC l c a = (c, setC (curC l c) a) ∧ (withP l c).set (atP l c) (c, setC (curC l c) a) = putG l (c, setC (curC l c) a) := by
    cases hk : (placeP c (l.map (·.1))).2 with
    | true =>
      obtain ⟨v, hv, hl⟩ := place_at_get c h.up hk
      have hw : withP l c = l := by unfold withP; rw [hk]; rfl
      constructor
      · unfold lookC
        rw [hw]
        unfold atP
        rw [List.getD_eq_getElem?_getD, hl]
        unfold curC
        rw [hv]
        rfl
      · rw [hw]
        exact put_old l (c, setC (curC l c) a) hk
    | false =>
      have hn : getG l c = none := by rw [hk] at hp; revert hp; cases getG l c <;> simp
      have hle := place_le c (l.map (·.1))
      rw [List.length_map] at hle
      have hw : withP l c = l.take (placeP c (l.map (·.1))).1 ++ (c, 0, []) :: l.drop (placeP c (l.map (·.1))).1 := by unfold withP; rw [hk]; rfl
      have htl : (l.take (placeP c (l.map (·.1))).1).length = (placeP c (l.map (·.1))).1 := by rw [List.length_take]; omega
      constructor
      · unfold lookC
        rw [hw]
        unfold atP
        rw [List.getD_eq_getElem?_getD, List.getElem?_append_right (by omega), htl, Nat.sub_self]
        unfold curC
        rw [hn]
        rfl
      · rw [hw]
        unfold atP
        rw [List.set_append, if_neg (by omega), htl, Nat.sub_self]
        exact put_new l (c, setC (curC l c) a) hk
  have hj := judge_eq c (setC (curC l c) a) ((h.cur c).set a (by omega)).kup r
  unfold lookP
  rw [hb, if_neg (by simp), hX.1, hX.2, hj]
  by_cases hcase : (getG l c).isSome = true ∨ l.length < 16
  · rw [if_pos hcase]
    rw [if_neg]
    rw [hp]
    rcases hcase with h1 | h1
    · rw [h1]; simp
    · simp; omega
  · rw [if_neg hcase, if_pos]
    rw [hp]
    have h1 : ¬ (getG l c).isSome = true := fun e => hcase (.inl e)
    have h2 : ¬ l.length < 16 := fun e => hcase (.inr e)
    rw [Bool.not_eq_true] at h1
    rw [h1]
    simp; omega

/-- Done in these words. -/
theorem done_eq (l : List PC) (c r : Int) (reply : List UInt8) (h : RightC l) :
    doneP l c r reply = match getG l c with
      | none => ([], 2)
      | some v => if (1 ≤ r ∧ r ≤ MM) ∧ v.1 < r ∧ getG v.2 r = none then (if 65536 < reply.length then ([], 3) else if v.2.length = 8 then ([], 5) else (putG l (c, v.1, putG v.2 (r, reply)), 0)) else ([], 2) := by
  have hp := place_some (l := l) c h.up
  unfold doneP
  rw [(right_iff l).2 h, if_neg (by simp)]
  cases hg : getG l c with
  | none =>
    rw [hg] at hp
    rw [hp]
    rfl
  | some v =>
    rw [hg] at hp
    obtain ⟨v', hv', hl⟩ := place_at_get c h.up (by rw [hp]; rfl)
    rw [hg] at hv'
    cases hv'
    have hm := get_mem hg
    have hkup : Up v.1 v.2 := h.kup _ hm
    have hd : l.getD (atP l c) (0, 0, []) = (c, v) := by
      unfold atP
      rw [List.getD_eq_getElem?_getD, hl]; rfl
    have hps := place_some r hkup
    simp only [Option.isSome_some] at hp
    rw [hp, hd]
    show (if (!true || !numP r || decide (r ≤ v.1)) = true then _ else if (placeP r (v.2.map (·.1))).2 = true then _ else if 65536 < reply.length then _ else if v.2.length = 8 then _ else (l.set (atP l c) (c, v.1, v.2.take (placeP r (v.2.map (·.1))).1 ++ (r, reply) :: v.2.drop (placeP r (v.2.map (·.1))).1), 0)) = if (1 ≤ r ∧ r ≤ MM) ∧ v.1 < r ∧ getG v.2 r = none then (if 65536 < reply.length then ([], 3) else if v.2.length = 8 then ([], 5) else (putG l (c, v.1, putG v.2 (r, reply)), 0)) else ([], 2)
    by_cases h1 : 1 ≤ r ∧ r ≤ MM
    · have hn : numP r = true := by unfold numP; rw [decide_eq_true h1.1, decide_eq_true h1.2]; rfl
      rw [hn]
      by_cases h2 : v.1 < r
      · rw [if_neg (by simp; omega)]
        cases hk : getG v.2 r with
        | some b =>
          rw [hk] at hps
          simp only [Option.isSome_some] at hps
          rw [hps, if_pos rfl, if_neg (by simp)]
        | none =>
          rw [hk] at hps
          simp only [Option.isSome_none] at hps
          rw [if_neg (by rw [hps]; simp), if_pos (c := (1 ≤ r ∧ r ≤ MM) ∧ v.1 < r ∧ (none : Option (List UInt8)) = none) ⟨h1, h2, rfl⟩]
          have e1 : v.2.take (placeP r (v.2.map (·.1))).1 ++ (r, reply) :: v.2.drop (placeP r (v.2.map (·.1))).1 = putG v.2 (r, reply) := put_new v.2 (r, reply) hps
          have e2 : l.set (atP l c) (c, v.1, putG v.2 (r, reply)) = putG l (c, v.1, putG v.2 (r, reply)) := put_old l (c, v.1, putG v.2 (r, reply)) hp
          rw [e1, e2]
      · rw [if_pos (by simp; omega), if_neg (by intro h; omega)]
    · have hn : numP r = false := by
        unfold numP
        rw [Bool.and_eq_false_iff, decide_eq_false_iff_not, decide_eq_false_iff_not]
        omega
      rw [hn, if_pos (by simp), if_neg (fun h => h1 h.1)]

theorem GoodC.more {v : Int × List PK} (h : GoodC v) (r : Int) (reply : List UInt8) (hr : v.1 < r ∧ r ≤ MM) (hn : getG v.2 r = none) (hl : v.2.length ≠ 8) : GoodC (v.1, putG v.2 (r, reply)) := by
  refine ⟨h.floor, ?_, up_put _ _ _ h.kup hr.1, fun k hk => ?_⟩
  · rw [len_put v.2 (r, reply) h.kup]
    show (if (getG v.2 r).isSome = true then _ else _) ≤ 8
    rw [hn]
    have := h.kept
    simp; omega
  · rcases mem_put _ _ _ hk with rfl | h1
    · exact hr.2
    · exact h.kmost k h1

end Go.Proofs.Ythjggjjocfbjcaa
