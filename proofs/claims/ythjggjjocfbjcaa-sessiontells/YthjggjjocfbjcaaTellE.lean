/- The document's Done, whole; how long the answers are. -/
import Derived.Test.YthjggjjocfbjcaaTellD
import Derived.Test.YthjggjjocfbjcaaKeepP
namespace Go.Proofs.Ythjggjjocfbjcaa
open Go.RowKit

theorem doner_any (a : Option Addr) (n c : Nat) (L : List CV) (cl r : Int) (ra : Option Addr) (rl rc : Nat) (reply : List UInt8) (w : World) (hL : L.length = n) (h : LAt w 0 a L) (hn : n ≤ 9000000000000000000) (hrl : reply.length = rl) (hrs : rl ≤ 140737488355328) (hat : At w ra reply) :
    Calls Try.prog 19 #[.slice a n c, .int .i64 cl, .int .i64 r, .slice ra rl rc] w (RDonePost (doneP (L.map CV.flat) cl r reply) w) := by
  cases hr : rightP (L.map CV.flat) with
  | false =>
    have e : doneP (L.map CV.flat) cl r reply = ([], 2) := by unfold doneP; rw [hr]; rfl
    rw [e]
    exact doner_bad a n c L cl r ra rl rc w hL h hn (.inl hr)
  | true =>
    have hR := (right_iff _).1 hr
    rw [done_eq _ cl r reply hR]
    cases hg : getG (L.map CV.flat) cl with
    | none =>
      exact doner_bad a n c L cl r ra rl rc w hL h hn (.inr (fun y hy he => by
        have := get_isSome hR.up ⟨y, hy, he⟩
        rw [hg] at this
        cases this))
    | some v =>
      have hcur : curC (L.map CV.flat) cl = v := by unfold curC; rw [hg]; rfl
      have hyes : ∃ x ∈ L, x.id = cl := by
        obtain ⟨x, hx, he⟩ := List.mem_map.1 (get_mem hg)
        exact ⟨x, hx, congrArg (fun p : PC => p.1) he⟩
      have hv0 : 0 ≤ v.1 := by have := (hR.cur cl).floor; rw [hcur] at this; exact this.1
      by_cases hc : v.1 < r ∧ r ≤ 4611686018427387904
      · refine doner_ok a n c L cl r ra rl rc reply w hL h hR hyes hc.2 (by rw [hcur]; exact hc.1) hrl hrs hat _ ?_
        rw [hcur, ← hrl]
        show (if (1 ≤ r ∧ r ≤ MM) ∧ v.1 < r ∧ getG v.2 r = none then (if 65536 < reply.length then (([] : List PC), (3 : Int)) else if v.2.length = 8 then ([], 5) else (putG (L.map CV.flat) (cl, v.1, putG v.2 (r, reply)), 0)) else ([], 2)) = (if (getG v.2 r).isSome = true then (([] : List PC), (2 : Int)) else if 65536 < reply.length then ([], 3) else if v.2.length = 8 then ([], 5) else (putG (L.map CV.flat) (cl, v.1, putG v.2 (r, reply)), 0))
        by_cases hs : (getG v.2 r).isSome = true
        · rw [if_pos hs, if_neg (fun hh => by rw [hh.2.2] at hs; cases hs)]
        · have hn0 : getG v.2 r = none := by
            cases h : getG v.2 r with
            | none => rfl
            | some b => rw [h] at hs; simp at hs
          rw [if_neg hs, if_pos ⟨⟨by omega, hc.2⟩, hc.1, hn0⟩]
      · have e : (if (1 ≤ r ∧ r ≤ MM) ∧ v.1 < r ∧ getG v.2 r = none then (if 65536 < reply.length then (([] : List PC), (3 : Int)) else if v.2.length = 8 then ([], 5) else (putG (L.map CV.flat) (cl, v.1, putG v.2 (r, reply)), 0)) else ([], 2)) = ([], 2) := if_neg (fun hh => hc ⟨hh.2.1, hh.1.2⟩)
        show Calls Try.prog 19 _ w (RDonePost (if (1 ≤ r ∧ r ≤ MM) ∧ v.1 < r ∧ getG v.2 r = none then (if 65536 < reply.length then (([] : List PC), (3 : Int)) else if v.2.length = 8 then ([], 5) else (putG (L.map CV.flat) (cl, v.1, putG v.2 (r, reply)), 0)) else ([], 2)) w)
        rw [e]
        refine doner_bad a n c L cl r ra rl rc w hL h hn (.inr (fun y hy he => ?_))
        have hy2 := up_get hR.up (List.mem_map.2 ⟨y, hy, rfl⟩ : y.flat ∈ L.map CV.flat)
        have he2 : y.flat.1 = cl := he
        rw [he2, hg] at hy2
        have hv : v.1 = y.fl := congrArg (fun p : Int × List PK => p.1) (Option.some.inj hy2)
        omega

def SmallC (l : List PC) : Prop := l.length ≤ 17 ∧ ∀ y ∈ l, y.2.2.length ≤ 9
theorem SmallC.nil : SmallC [] := ⟨by simp, by simp⟩
theorem SmallC.right {l : List PC} (h : RightC l) : SmallC l := ⟨by have := h.len; omega, fun y hy => by have := h.kept y hy; omega⟩

theorem look_small {l ll : List PC} {cl r ak lv le : Int} {lr : List UInt8} (h : lookP l cl r ak = (ll, lv, lr, le)) : SmallC ll := by
  by_cases he : le = 0
  · subst he
    exact .right (look_right h)
  · unfold lookP at h
    split at h
    · cases h; exact .nil
    · split at h
      · cases h; exact .nil
      · simp only [Prod.mk.injEq] at h
        exact absurd h.2.2.2.symm he

theorem done_small {l dl : List PC} {cl r de : Int} {reply : List UInt8} (h : doneP l cl r reply = (dl, de)) : SmallC dl := by
  cases hr : rightP l with
  | false =>
    have e : doneP l cl r reply = ([], 2) := by unfold doneP; rw [hr]; rfl
    rw [e] at h
    cases h; exact .nil
  | true =>
    have hR := (right_iff _).1 hr
    rw [done_eq _ cl r reply hR] at h
    cases hg : getG l cl with
    | none => rw [hg] at h; cases h; exact .nil
    | some v =>
      rw [hg] at h
      have hcur : curC l cl = v := by unfold curC; rw [hg]; rfl
      have hG := hR.cur cl
      rw [hcur] at hG
      have hcm : 1 ≤ cl ∧ cl ≤ MM := by
        have hm := get_mem hg
        exact ⟨by have h0 : (0 : Int) < cl := Up.mem hR.up _ hm; omega, hR.most _ hm⟩
      by_cases hc : (1 ≤ r ∧ r ≤ MM) ∧ v.1 < r ∧ getG v.2 r = none
      · simp only [if_pos hc] at h
        by_cases h1 : 65536 < reply.length
        · rw [if_pos h1] at h; cases h; exact .nil
        · rw [if_neg h1] at h
          by_cases h2 : v.2.length = 8
          · rw [if_pos h2] at h; cases h; exact .nil
          · rw [if_neg h2] at h
            cases h
            exact .right (hR.put cl _ hcm (hG.more r reply ⟨hc.2.1, hc.1.2⟩ hc.2.2 h2) (.inl (by rw [hg]; rfl)))
      · simp only [if_neg hc] at h
        cases h; exact .nil

theorem flat_lenC {K : List CV} {L : List PC} {m : Nat} (h : K.map CV.flat = L) (hm : L.length = m) : K.length = m := by rw [← hm, ← h]; simp
theorem kept_small {K : List CV} {L : List PC} (h : K.map CV.flat = L) (hs : ∀ y ∈ L, y.2.2.length ≤ 9) : ∀ x ∈ K, x.ks.length ≤ 3000000000000000 := fun x hx => by
  have := hs x.flat (by rw [← h]; exact List.mem_map.2 ⟨x, hx, rfl⟩)
  have e : x.flat.2.2.length = x.ks.length := by show (x.ks.map KV.flat).length = _; simp
  omega
theorem copy_small {K L : List CV} (h : K.map CV.flat = L.map CV.flat) (hs : ∀ x ∈ L, x.ks.length * 32 ≤ SMALL) : ∀ x ∈ K, x.ks.length ≤ 3000000000000000 := fun x hx => by
  have hm : x.flat ∈ L.map CV.flat := by rw [← h]; exact List.mem_map.2 ⟨x, hx, rfl⟩
  obtain ⟨y, hy, he⟩ := List.mem_map.1 hm
  have := hs y hy
  unfold SMALL at this
  have e1 : x.ks.length = y.ks.length := by
    have := congrArg (fun p : PC => p.2.2.length) he
    simpa [CV.flat] using this.symm
  omega

end Go.Proofs.Ythjggjjocfbjcaa
