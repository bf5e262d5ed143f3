/- What New, Send, Deliver, Drop, Double and Copy do. -/
import Derived.Test.YtgjjgfppolmkoaaAdd
namespace Go.Proofs.Ytgjjgfppolmkoaa
open Go.RowKit Go.Maps

/-- The blocks that a net's calls turn. -/
def Turn (p m : Nat) : Nat → Prop := fun k => k = p ∨ k = m

theorem new_any (w : World) : Calls Try.prog 9 #[] w fun e w' => ∃ p m, e = .returned (.pointer (some ⟨p, 0, none⟩)) ∧ w.heap.size ≤ p ∧ w.heap.size ≤ m ∧ NAt w' p m [] 0 ∧ Below w.heap.size w w' := by
  have hmm := @run_makeMap Try.prog
  go_enter Try.func9, Try.ntmps9
  go_wp2
  go_ret
  have b1 := below_lit w (.map #[] 0)
  have b2 := below_lit (w.alloc (.map #[] 0)) (.cells #[.map (some w.heap.size), .int .i64 0] 56)
  refine ⟨w.heap.size + 1, w.heap.size, rfl, by omega, Nat.le_refl _, ⟨?_, own_kp (S := fun _ => False) (World.ownsMap_made w Try.prog 3 RV) (Kp.of_below b2) (fun h => h), List.Pairwise.nil, by simp, ⟨by simp, by simp, by simp⟩, by simp⟩, bnext b1 b2⟩
  have := heap_alloc_new (w.alloc (.map #[] 0)) (.cells #[.map (some w.heap.size), .int .i64 0] 56)
  simpa using this

theorem own_at {w : World} {base n c : Nat} {a : Option Addr} {l : List UInt8} (h : Own w base (.slice a n c) l) : At w a l := by
  obtain ⟨a2, c2, hv, _, hat⟩ := h.form
  simp only [Value.slice.injEq] at hv
  rw [hv.1]
  exact hat

theorem off_of {w : World} {p m last : Nat} {L : List Pk} (h : NAt w p m L last) {x : Addr} (hx : w.heap.size ≤ x.block) : x.block ≠ p ∧ x.block ≠ m := by
  have h1 := h.lt
  have h2 := h.own.lt
  omega

set_option maxRecDepth 100000 in
set_option maxHeartbeats 400000 in
theorem send_ok {p m last : Nat} {L : List Pk} (fr to : Int) (a : Option Addr) (cap len : Nat) (l : List UInt8) (w : World) (h : NAt w p m L last) (hl : l.length = len) (hlen : len ≤ 65545) (hlast : last < 4611686018427387904) (hL : L.length < 256) (hat : At w a l) :
    Calls Try.prog 10 #[.pointer (some ⟨p, 0, none⟩), .int .i64 fr, .int .i64 to, .slice a len cap] w fun e w' => ∃ q : Pk, e = .returned (.tuple #[.int .i64 ((last + 1 : Nat) : Int), .int .i64 0]) ∧ q.num = (last + 1 : Nat) ∧ q.fr = fr ∧ q.to = to ∧ q.body = l ∧ (∀ x, q.a = some x → w.heap.size ≤ x.block) ∧ NAt w' p m (L ++ [q]) (last + 1) ∧ Kp (Turn p m) w w' := by
  have d1 : decide ((65545 : Int) < (len : Int)) = false := decide_eq_false (by omega)
  have d2 : decide (256 ≤ L.length) = false := decide_eq_false (by omega)
  replace hl := hid hl
  go_enter Try.func10, Try.ntmps10
  go_wp2_with fail
  refine (isone_yes _ h).mono ?_
  rintro e w1 ⟨rfl, rfl⟩
  go_wp2_with fail
  refine (isfull_any _ h).mono ?_
  rintro e w1 ⟨rfl, rfl⟩
  rw [d2]
  go_wp2_with fail
  refine (bclone_any a cap len l _ hl.out (by omega) hat).mono ?_
  rintro e w2 ⟨a', c', rfl, ho, hb⟩
  have h2 := h.below hb
  have hat2 := own_at ho
  have hof : ∀ x, a' = some x → w1.heap.size ≤ x.block ∧ x.block < w2.heap.size := fun x hx => by
    subst hx
    exact ho.lt x.block rfl
  replace hat2 := hid hat2
  replace hof := hid hof
  replace ho := hid ho
  go_wp2_with fail
  refine (add_any 0 fr to a' c' len l _ h2 hl.out hlen hlast (by omega) hat2.out (fun x hx => ⟨(off_of h (hof.out x hx).1).1, (off_of h (hof.out x hx).1).2, (hof.out x hx).2⟩)).mono ?_
  rintro e w3 ⟨rfl, h3, k3⟩
  replace h3 := hid h3
  replace hl := hid hl.out
  go_wp2
  go_ret2
  exact ⟨⟨(last + 1 : Nat), fr, to, a', c', l⟩, rfl, rfl, rfl, rfl, rfl, fun x hx => (hof.out x hx).1, h3.out, (Kp.of_below hb).trans k3⟩

set_option maxRecDepth 100000 in
theorem send_long {p m last : Nat} {L : List Pk} (fr to : Int) (a : Option Addr) (cap len : Nat) (w : World) (h : NAt w p m L last) (hlen : 65545 < len) :
    Calls Try.prog 10 #[.pointer (some ⟨p, 0, none⟩), .int .i64 fr, .int .i64 to, .slice a len cap] w fun e w' => e = .returned (.tuple #[.int .i64 0, .int .i64 3]) ∧ w' = w := by
  have d1 : decide ((65545 : Int) < (len : Int)) = true := decide_eq_true (by omega)
  go_enter Try.func10, Try.ntmps10
  go_wp2_with fail
  refine (isone_yes _ h).mono ?_
  rintro e w1 ⟨rfl, rfl⟩
  go_wp2
  go_ret2
  exact ⟨rfl, rfl⟩

set_option maxRecDepth 100000 in
theorem send_full {p m last : Nat} {L : List Pk} (fr to : Int) (a : Option Addr) (cap len : Nat) (w : World) (h : NAt w p m L last) (hlen : len ≤ 65545) (hL : 256 ≤ L.length) :
    Calls Try.prog 10 #[.pointer (some ⟨p, 0, none⟩), .int .i64 fr, .int .i64 to, .slice a len cap] w fun e w' => e = .returned (.tuple #[.int .i64 0, .int .i64 5]) ∧ w' = w := by
  have d1 : decide ((65545 : Int) < (len : Int)) = false := decide_eq_false (by omega)
  have d2 : decide (256 ≤ L.length) = true := decide_eq_true (by omega)
  go_enter Try.func10, Try.ntmps10
  go_wp2_with fail
  refine (isone_yes _ h).mono ?_
  rintro e w1 ⟨rfl, rfl⟩
  go_wp2_with fail
  refine (isfull_any _ h).mono ?_
  rintro e w1 ⟨rfl, rfl⟩
  rw [d2]
  go_wp2
  go_ret2
  exact ⟨rfl, rfl⟩

theorem send_none (v : Value) (fr to : Int) (b : Value) (w : World) (h : NNone w v) :
    Calls Try.prog 10 #[v, .int .i64 fr, .int .i64 to, b] w fun e w' => e = .returned (.tuple #[.int .i64 0, .int .i64 1]) ∧ w' = w := by
  go_enter Try.func10, Try.ntmps10
  go_wp2_with fail
  refine (isone_none _ _ h).mono ?_
  rintro e w1 ⟨rfl, rfl⟩
  go_wp2
  go_ret2
  exact ⟨rfl, rfl⟩

end Go.Proofs.Ytgjjgfppolmkoaa
