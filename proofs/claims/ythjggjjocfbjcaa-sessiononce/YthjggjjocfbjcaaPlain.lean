/- Clients and askers as plain data: what is right, where a number stands, Look, Done, Ask, Take. -/
import Derived.Test.YthjggjjocfbjcaaBase
namespace Go.Proofs.Ythjggjjocfbjcaa

/-- A request that is kept, or waits: its number and bytes. -/
abbrev PK := Int × List UInt8
/-- A client: its id, its floor, what is kept. -/
abbrev PC := Int × Int × List PK
/-- An asker: id, next, acked, what waits. -/
abbrev PA := Int × Int × Int × List PK

def MM : Int := 4611686018427387904

def riseB (low high : Int) : List Int → Bool
  | [] => true
  | n :: r => (decide (low < n) && decide (n ≤ high)) && riseB n high r

def placeP (x : Int) : List Int → Nat × Bool
  | [] => (0, false)
  | n :: r => if x ≤ n then (0, n == x) else ((placeP x r).1 + 1, (placeP x r).2)

def numP (x : Int) : Bool := decide (1 ≤ x) && decide (x ≤ MM)

def okC (c : PC) : Bool := (decide (0 ≤ c.2.1) && decide (c.2.1 ≤ MM) && decide (c.2.2.length ≤ 8)) && riseB c.2.1 MM (c.2.2.map (·.1))

def rightP (l : List PC) : Bool := (decide (l.length ≤ 16) && riseB 0 MM (l.map (·.1))) && l.all okC

/-- A client behind its word that all up to a are answered. -/
def settleP (c : PC) (a : Int) : PC := (c.1, max c.2.1 a, c.2.2.filter fun k => !decide (k.1 ≤ max c.2.1 a))

def judgeP (c : PC) (r : Int) : Int × List UInt8 :=
  if r ≤ c.2.1 then (3, [])
  else if (placeP r (c.2.2.map (·.1))).2 then (2, ((c.2.2[(placeP r (c.2.2.map (·.1))).1]?).map (·.2)).getD [])
  else if c.2.2.length = 8 then (4, []) else (1, [])

def lookBad (l : List PC) (c r a : Int) : Bool := !rightP l || !numP c || !numP r || decide (a < 0) || decide (r ≤ a)

/-- The clients with c among them. -/
def withP (l : List PC) (c : Int) : List PC :=
  if (placeP c (l.map (·.1))).2 then l else l.take (placeP c (l.map (·.1))).1 ++ (c, 0, []) :: l.drop (placeP c (l.map (·.1))).1

def atP (l : List PC) (c : Int) : Nat := (placeP c (l.map (·.1))).1

def lookC (l : List PC) (c a : Int) : PC := settleP ((withP l c).getD (atP l c) (0, 0, [])) a

def lookP (l : List PC) (c r a : Int) : List PC × Int × List UInt8 × Int :=
  if lookBad l c r a then ([], 0, [], 2)
  else if (!(placeP c (l.map (·.1))).2 && decide (l.length = 16)) then ([], 0, [], 5)
  else ((withP l c).set (atP l c) (lookC l c a), (judgeP (lookC l c a) r).1, (judgeP (lookC l c a) r).2, 0)

def doneP (l : List PC) (c r : Int) (reply : List UInt8) : List PC × Int :=
  if !rightP l then ([], 2)
  else if !(placeP c (l.map (·.1))).2 || !numP r || decide (r ≤ (l.getD (atP l c) (0, 0, [])).2.1) then ([], 2)
  else if (placeP r ((l.getD (atP l c) (0, 0, [])).2.2.map (·.1))).2 then ([], 2)
  else if 65536 < reply.length then ([], 3)
  else if (l.getD (atP l c) (0, 0, [])).2.2.length = 8 then ([], 5)
  else
    let x := l.getD (atP l c) (0, 0, [])
    let p := (placeP r (x.2.2.map (·.1))).1
    (l.set (atP l c) (x.1, x.2.1, x.2.2.take p ++ (r, reply) :: x.2.2.drop p), 0)

theorem place_le (x : Int) : ∀ l : List Int, (placeP x l).1 ≤ l.length
  | [] => Nat.le_refl _
  | n :: r => by
    have := place_le x r
    simp only [placeP]
    split <;> simp <;> omega

theorem place_lt (x : Int) : ∀ l : List Int, (placeP x l).2 = true → (placeP x l).1 < l.length
  | [], h => by simp [placeP] at h
  | n :: r, h => by
    simp only [placeP] at h ⊢
    split
    · simp
    · rename_i h1
      rw [if_neg h1] at h
      have := place_lt x r h
      simp; omega

theorem place_get (x : Int) : ∀ l : List Int, (placeP x l).2 = true → l[(placeP x l).1]? = some x
  | [], h => by simp [placeP] at h
  | n :: r, h => by
    simp only [placeP] at h ⊢
    split
    · rename_i h1
      rw [if_pos h1] at h
      simp at h
      simp [h]
    · rename_i h1
      rw [if_neg h1] at h
      have := place_get x r h
      simpa using this

/-- placeP as a loop finds it. -/
theorem place_at (x : Int) : ∀ (l : List Int) (j : Nat) (hj : j < l.length), (∀ i (h : i < j), (l[i]'(by omega)) < x) → x ≤ l[j] → placeP x l = (j, l[j] == x)
  | n :: r, 0, _, _, h => by
    simp only [List.getElem_cons_zero] at h ⊢
    simp [placeP, h]
  | n :: r, j + 1, hj, hb, h => by
    have h0 : n < x := hb 0 (by omega)
    have ih := place_at x r j (by simpa using hj) (fun i hi => hb (i + 1) (by omega)) h
    simp only [placeP, ih, List.getElem_cons_succ]
    rw [if_neg (by omega)]

theorem place_end (x : Int) : ∀ (l : List Int), (∀ n ∈ l, n < x) → placeP x l = (l.length, false)
  | [], _ => rfl
  | n :: r, h => by
    have h0 := h n (by simp)
    simp only [placeP, place_end x r (fun y hy => h y (by simp [hy])), List.length_cons]
    rw [if_neg (by omega)]

theorem rise_drop (high : Int) (l : List Int) (j : Nat) (hj : j < l.length) (low : Int) : riseB low high (l.drop j) = ((decide (low < l[j]) && decide (l[j] ≤ high)) && riseB l[j] high (l.drop (j + 1))) := by
  rw [List.drop_eq_getElem_cons hj]
  rfl

end Go.Proofs.Ythjggjjocfbjcaa
