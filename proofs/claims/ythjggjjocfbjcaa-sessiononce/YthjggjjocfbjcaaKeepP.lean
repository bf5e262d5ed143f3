/- A request that is done stays so: plain clients. -/
import Derived.Test.YthjggjjocfbjcaaPlain2
namespace Go.Proofs.Ythjggjjocfbjcaa

theorem look_inv {l : List PC} {c r a : Int} {l' : List PC} {v : Int} {x : List UInt8} (h : lookP l c r a = (l', v, x, 0)) :
    RightC l ∧ (1 ≤ c ∧ c ≤ MM) ∧ (1 ≤ r ∧ r ≤ MM) ∧ (0 ≤ a ∧ a < r) ∧ ((getG l c).isSome = true ∨ l.length < 16) ∧ l' = putG l (c, setC (curC l c) a) ∧ (v, x) = judC (setC (curC l c) a) r := by
  have hb : lookBad l c r a = false := by
    cases hb : lookBad l c r a with
    | false => rfl
    | true =>
      unfold lookP at h
      rw [hb] at h
      simp at h
  unfold lookBad numP at hb
  simp only [Bool.or_eq_false_iff, Bool.not_eq_false', Bool.and_eq_true, decide_eq_true_eq, decide_eq_false_iff_not] at hb
  obtain ⟨⟨⟨⟨h1, h2⟩, h3⟩, h4⟩, h5⟩ := hb
  have hR := (right_iff l).1 h1
  have ha : 0 ≤ a ∧ a < r := by omega
  rw [look_eq l c r a hR h2 h3 ha] at h
  split at h
  · rename_i hc
    simp only [Prod.mk.injEq] at h
    refine ⟨hR, h2, h3, ha, hc, h.1.symm, ?_⟩
    rw [← h.2.1, ← h.2.2.1]
  · simp at h

theorem look_right {l : List PC} {c r a : Int} {l' : List PC} {v : Int} {x : List UInt8} (h : lookP l c r a = (l', v, x, 0)) : RightC l' := by
  obtain ⟨hR, hc, hr, ha, hl, rfl, _⟩ := look_inv h
  exact hR.put c _ hc ((hR.cur c).set a (by omega)) hl

theorem jud_new {v : Int × List PK} {r : Int} {x : List UInt8} (h : ((1 : Int), x) = judC v r) : v.1 < r ∧ getG v.2 r = none ∧ v.2.length ≠ 8 := by
  unfold judC at h
  split at h
  · simp at h
  · rename_i h1
    cases hg : getG v.2 r with
    | some b => rw [hg] at h; simp at h
    | none =>
      rw [hg] at h
      simp only at h
      split at h
      · simp at h
      · rename_i h2; exact ⟨by omega, rfl, h2⟩

/-- What is new can be done. -/
theorem new_done {l : List PC} {c r a : Int} {l' : List PC} {x : List UInt8} (h : lookP l c r a = (l', 1, x, 0)) (reply : List UInt8) (hl : reply.length ≤ 65536) :
    doneP l' c r reply = (putG l' (c, (setC (curC l c) a).1, putG (setC (curC l c) a).2 (r, reply)), 0) ∧ RightC (putG l' (c, (setC (curC l c) a).1, putG (setC (curC l c) a).2 (r, reply))) := by
  have hR' := look_right h
  obtain ⟨hR, hc, hr, ha, hl2, rfl, hj⟩ := look_inv h
  obtain ⟨n1, n2, n3⟩ := jud_new hj
  have hg : getG (putG l (c, setC (curC l c) a)) c = some (setC (curC l c) a) := by rw [get_put]; simp
  constructor
  · rw [done_eq _ _ _ _ hR', hg]
    simp only
    rw [if_pos ⟨hr, n1, n2⟩, if_neg (by omega), if_neg n3]
  · exact hR'.put c _ hc (((hR.cur c).set a (by omega)).more r reply ⟨n1, hr.2⟩ n2 n3) (.inl (by rw [hg]; rfl))

/-- The request rq of the client cl is kept, with its reply. -/
def Stays (m : List PC) (cl rq : Int) (reply : List UInt8) : Prop := RightC m ∧ ∃ v, getG m cl = some v ∧ v.1 < rq ∧ getG v.2 rq = some reply

theorem stays_start {l : List PC} {cl rq : Int} {m : List PC} {x : List UInt8} {reply : List UInt8} (h : lookP l cl rq 0 = (m, 1, x, 0)) (hl : reply.length ≤ 65536) : ∃ m', doneP m cl rq reply = (m', 0) ∧ Stays m' cl rq reply := by
  obtain ⟨h1, h2⟩ := new_done h reply hl
  refine ⟨_, h1, h2, _, by rw [get_put, if_pos rfl], ?_, ?_⟩
  · obtain ⟨hR, hc, hr, ha, hl2, rfl, hj⟩ := look_inv h
    exact (jud_new hj).1
  · show getG (putG _ (rq, reply)) rq = _
    rw [get_put, if_pos rfl]

theorem stays_look {m m' : List PC} {cl rq who what known v : Int} {x reply : List UInt8} (hS : Stays m cl rq reply) (hk : who = cl → known < rq) (h : lookP m who what known = (m', v, x, 0)) : Stays m' cl rq reply := by
  refine ⟨look_right h, ?_⟩
  obtain ⟨hR, hc, hr, ha, hl2, rfl, hj⟩ := look_inv h
  obtain ⟨_, u, hu, hf, hg⟩ := hS
  rw [get_put]
  by_cases hw : who = cl
  · rw [if_pos hw]
    subst hw
    have hcur : curC m who = u := by unfold curC; rw [hu]; rfl
    refine ⟨_, rfl, ?_, ?_⟩
    · show (setC (curC m who) known).1 < rq
      rw [hcur]
      have := hk rfl
      simp only [setC]; omega
    · show getG (setC (curC m who) known).2 rq = _
      rw [hcur]
      have := hk rfl
      simp only [setC]
      rw [get_filter, if_neg (by omega)]
      exact hg
  · rw [if_neg hw]
    exact ⟨u, hu, hf, hg⟩

theorem stays_done {m m' : List PC} {cl rq who what known : Int} {x reply : List UInt8} (hS : Stays m cl rq reply) (hk : who = cl → known < rq) (h : lookP m who what known = (m', 1, x, 0)) : ∃ m'', doneP m' who what [] = (m'', 0) ∧ Stays m'' cl rq reply := by
  obtain ⟨h1, h2⟩ := new_done h [] (by simp)
  have hS' := stays_look hS hk h
  refine ⟨_, h1, h2, ?_⟩
  obtain ⟨hR, hc, hr, ha, hl2, rfl, hj⟩ := look_inv h
  obtain ⟨n1, n2, n3⟩ := jud_new hj
  obtain ⟨_, u, hu, hf, hg⟩ := hS'
  rw [get_put]
  by_cases hw : who = cl
  · rw [if_pos hw]
    subst hw
    rw [get_put, if_pos rfl] at hu
    cases hu
    refine ⟨_, rfl, hf, ?_⟩
    show getG (putG _ (what, [])) rq = _
    rw [get_put]
    have hne : ¬ what = rq := fun e => by subst e; rw [n2] at hg; cases hg
    rw [if_neg hne]
    exact hg
  · rw [if_neg hw]
    exact ⟨u, hu, hf, hg⟩

/-- It is told again. -/
theorem stays_old {m : List PC} {cl rq : Int} {reply : List UInt8} (hS : Stays m cl rq reply) (hc : 1 ≤ cl ∧ cl ≤ MM) (hr : 1 ≤ rq ∧ rq ≤ MM) : ∃ m', lookP m cl rq 0 = (m', 2, reply, 0) := by
  obtain ⟨hR, u, hu, hf, hg⟩ := hS
  rw [look_eq m cl rq 0 hR hc hr (by omega), if_pos (.inl (by rw [hu]; rfl))]
  have hcur : curC m cl = u := by unfold curC; rw [hu]; rfl
  have hfl := (hR.cur cl).floor
  rw [hcur] at hfl
  have hj : judC (setC (curC m cl) 0) rq = (2, reply) := by
    rw [hcur]
    have h1 : max u.1 0 = u.1 := by omega
    unfold judC setC
    simp only [h1]
    rw [if_neg (by omega), get_filter, if_neg (by omega), hg]
  rw [hj]
  exact ⟨_, rfl⟩

/-- Up to the word that all up to it are answered; then it is stale. -/
theorem stays_end {m : List PC} {cl rq : Int} {reply : List UInt8} (hS : Stays m cl rq reply) (hc : 1 ≤ cl ∧ cl ≤ MM) (hr : 1 ≤ rq ∧ rq < MM) : ∃ z v x, lookP m cl (rq + 1) rq = (z, v, x, 0) ∧ v ≠ 3 ∧ ∃ z', lookP z cl rq 0 = (z', 3, [], 0) := by
  obtain ⟨hR, u, hu, hf, hg⟩ := hS
  have hcur : curC m cl = u := by unfold curC; rw [hu]; rfl
  have hl := look_eq m cl (rq + 1) rq hR hc (by omega) (by omega)
  rw [if_pos (.inl (by rw [hu]; rfl))] at hl
  refine ⟨_, _, _, hl, ?_, ?_⟩
  · rw [hcur]
    unfold judC setC
    simp only
    rw [if_neg (by omega)]
    cases getG (u.2.filter fun k => !decide (k.1 ≤ max u.1 rq)) (rq + 1) with
    | some b => simp
    | none => simp only; split <;> simp
  · have hR' := look_right hl
    have hg' : getG (putG m (cl, setC (curC m cl) rq)) cl = some (setC (curC m cl) rq) := by rw [get_put, if_pos rfl]
    rw [look_eq _ cl rq 0 hR' hc (by omega) (by omega), if_pos (.inl (by rw [hg']; rfl))]
    have hcur' : curC (putG m (cl, setC (curC m cl) rq)) cl = setC (curC m cl) rq := by
      show (getG (putG m (cl, setC (curC m cl) rq)) cl).getD (0, []) = _
      rw [hg']
      rfl
    have hj : judC (setC (curC (putG m (cl, setC (curC m cl) rq)) cl) 0) rq = (3, []) := by
      rw [hcur', hcur]
      unfold judC
      rw [if_pos]
      simp only [setC]; omega
    rw [hj]
    exact ⟨_, rfl⟩

end Go.Proofs.Ythjggjjocfbjcaa
