/- NetPlays: while the first net is filled; the script in memory. -/
import Derived.Test.YtgjjgfppolmkoaaPlaysView
import Derived.Test.YtgjjgfppolmkoaaAwake
namespace Go.Proofs.Ytgjjgfppolmkoaa
open Go.RowKit Go.Maps

/-- Both nets while the first one is filled. -/
def Fill (base gd gl : Nat) (wr : World) (j : Nat) : Prop := ∃ p m L a c R p' m' L' a' c' R', View base gd gl 0 wr p m L j a j c R p' m' L' 0 a' 0 c' R'

theorem view_start {w w1 w2 : World} {p0 m0 p1 m1 : Nat} (N0 : NAt w1 p0 m0 [] 0) (N1 : NAt w2 p1 m1 [] 0) (hp0 : w.heap.size ≤ p0) (hm0 : w.heap.size ≤ m0) (hp1 : w1.heap.size ≤ p1) (hm1 : w1.heap.size ≤ m1) (b1 : Below w.heap.size w w1) (b2 : Below w1.heap.size w1 w2) :
    Fill w.heap.size w2.heap.size (w2.heap.size + 1) ((w2.alloc (.cells #[.pointer (some ⟨p0, 0, none⟩), .pointer (some ⟨p1, 0, none⟩)] 38)).alloc (.cells #[.slice none 0 0, .int .i64 0, .slice none 0 0, .int .i64 0] 41)) 0 := by
  have l0 := N0.lt
  have l1 := N0.own.lt
  have l2 := N1.lt
  have l3 := N1.own.lt
  have s1 := b1.size
  have s2 := b2.size
  have c1 := below_lit w2 (.cells #[.pointer (some ⟨p0, 0, none⟩), .pointer (some ⟨p1, 0, none⟩)] 38)
  have c2 := below_lit (w2.alloc (.cells #[.pointer (some ⟨p0, 0, none⟩), .pointer (some ⟨p1, 0, none⟩)] 38)) (.cells #[.slice none 0 0, .int .i64 0, .slice none 0 0, .int .i64 0] 41)
  refine ⟨p0, m0, [], none, 0, [], p1, m1, [], none, 0, [], by omega, ?_, ?_, ?_, ?_, by omega, by omega⟩
  · rw [c2.block w2.heap.size (by rw [World.size_alloc]; omega)]
    exact heap_alloc_new w2 _
  · have := heap_alloc_new (w2.alloc (.cells #[.pointer (some ⟨p0, 0, none⟩), .pointer (some ⟨p1, 0, none⟩)] 38)) (.cells #[.slice none 0 0, .int .i64 0, .slice none 0 0, .int .i64 0] 41)
    rw [World.size_alloc] at this
    exact this
  · exact ⟨((N0.below b2).below c1).below c2, RAt.nil _ _, rfl, Nat.le_refl _, by omega, rfl, by simp, by simp, by simp⟩
  · exact ⟨(N1.below c1).below c2, RAt.nil _ _, rfl, Nat.le_refl _, by omega, rfl, by simp, by simp, by simp⟩

theorem View.gla {base gd gl on : Nat} {w wa : World} {p m : Nat} {L : List Pk} {last : Nat} {a : Option Addr} {n c : Nat} {R : List Pk} {p' m' : Nat} {L' : List Pk} {last' : Nat} {a' : Option Addr} {n' c' : Nat} {R' : List Pk} (h : View base gd gl on w p m L last a n c R p' m' L' last' a' n' c' R') (ka : Kp (Turn p m) w wa) :
    wa.heap[gl]? = some (.cells (arr4 on (.slice a n c) (.int .i64 (last : Int)) (.slice a' n' c') (.int .i64 (last' : Int))) 41 (0, 0)) := by
  obtain ⟨m1, m2, m3, m4, m5, m6, m7, m8, m9, m10, m11, m12, m13⟩ := h.ne
  rw [ka.block gl h.llt (by unfold Turn; omega)]
  exact h.lb

theorem View.rata {base gd gl on : Nat} {w wa : World} {p m : Nat} {L : List Pk} {last : Nat} {a : Option Addr} {n c : Nat} {R : List Pk} {p' m' : Nat} {L' : List Pk} {last' : Nat} {a' : Option Addr} {n' c' : Nat} {R' : List Pk} (h : View base gd gl on w p m L last a n c R p' m' L' last' a' n' c' R') (ka : Kp (Turn p m) w wa) : RAt wa a R :=
  h.sd.rat.kp ka (fun x hx e => (h.sd.offA x hx).1 (by rcases e with e | e <;> simp [T6, e])) (fun q hq x hx e => (h.sd.offR q hq x hx).1 (by rcases e with e | e <;> simp [T6, e]))

theorem lcells {w : World} {gl : Nat} {x u y v : Value} (h : w.heap[gl]? = some (.cells (arr4 0 x u y v) 41 (0, 0))) : w.cell? ⟨gl, 0, none⟩ = some x ∧ w.cell? ⟨gl, 1, none⟩ = some u ∧ w.frozen? ⟨gl, 0, none⟩ = false ∧ w.frozen? ⟨gl, 1, none⟩ = false := by
  refine ⟨?_, ?_, ?_, ?_⟩ <;> simp [World.cell?, World.frozen?, h, arr4]

theorem Fill.more {base gd gl j : Nat} {w wa wb : World} {p m : Nat} {L : List Pk} {a : Option Addr} {c : Nat} {R : List Pk} {p' m' : Nat} {L' : List Pk} {a' : Option Addr} {c' : Nat} {R' : List Pk} (h : View base gd gl 0 w p m L j a j c R p' m' L' 0 a' 0 c' R') (hj : j < 250)
    {q1 q : Pk} {fr to : Int} {body : List UInt8} {a3 : Option Addr} {c3 : Nat} (hN : NAt wa p m (L ++ [q1]) (j + 1)) (hq : q1.num = (j + 1 : Nat) ∧ q1.fr = fr ∧ q1.to = to ∧ q1.body = body) (hqa : ∀ x, q1.a = some x → w.heap.size ≤ x.block) (ka : Kp (Turn p m) w wa)
    (hp : Puts wa wb R j fr to body (.slice a3 (j + 1) c3) q) (bb : Below wa.heap.size wa wb) :
    Fill base gd gl ((wb.setCell ⟨gl, 0, none⟩ (.slice a3 (j + 1) c3)).setCell ⟨gl, 1, none⟩ (.int .i64 ((j : Int) + 1))) (j + 1) := by
  obtain ⟨m1, m2, m3, m4, m5, m6, m7, m8, m9, m10, m11, m12, m13⟩ := h.ne
  have hl := h.llt
  have sa := ka.size
  have sb := bb.size
  have kE := Kp.setCell (S := fun k => k = gl) (p := ⟨gl, 1, none⟩) (Kp.setCell (S := fun k => k = gl) (p := ⟨gl, 0, none⟩) (Kp.refl _ wb) rfl (.slice a3 (j + 1) c3)) rfl (.int .i64 ((j : Int) + 1))
  have sE := kE.size
  have hNb := hN.below bb
  have hNE := hNb.kp kE (by omega) (by omega) (fun z hz x hx e => by
    rcases List.mem_append.1 hz with h' | h'
    · exact h.sd.offL z h' x hx (by simp [T6, e])
    · rw [List.mem_singleton] at h'; subst h'; have := hqa x hx; omega)
  have hpE := hp.kp kE (fun k hk => by omega) (fun z hz x hx e => (h.sd.offR z hz x hx).1 (by simp [T6, e]))
  have hk : Kp (fun k => k = p ∨ k = m ∨ k = gl ∨ w.heap.size ≤ k) w ((wb.setCell ⟨gl, 0, none⟩ (.slice a3 (j + 1) c3)).setCell ⟨gl, 1, none⟩ (.int .i64 ((j : Int) + 1))) :=
    ((ka.mono (S' := fun k => k = p ∨ k = m ∨ k = gl ∨ w.heap.size ≤ k) (fun k _ e => by rcases e with e | e <;> simp [e])).then bb).next kE (fun k _ e => by simp [e])
  obtain ⟨a4, c4, e4, S4⟩ := h.sd.more (w1 := wa) (by omega) h.tlt hNE hq (fun x hx e => by have := h.tlt _ e; have := hqa x hx; omega) sa (by omega) hpE
  cases e4
  have hlb : wb.heap[gl]? = some (.cells (arr4 0 (.slice a j c) (.int .i64 (j : Int)) (.slice a' 0 c') (.int .i64 ((0 : Nat) : Int))) 41 (0, 0)) := by
    rw [bb.block gl (by omega), ka.block gl hl (by unfold Turn; omega)]
    exact h.lb
  have := h.step hk S4 (lb_set (on := 0) (by omega) hlb _ _)
  exact ⟨_, _, _, _, _, _, _, _, _, _, _, _, this⟩

/-- An operation of the script. -/
structure Opr where
  kind : Int
  on : Int
  fr : Int
  to : Int
  a : Option Addr
  c : Nat
  body : List UInt8
  num : Int

/-- Operations that can be read behind the address a0. -/
def OAt (w : World) (a0 : Option Addr) (ops : List Opr) : Prop := ops ≠ [] → ∃ b o, a0 = some ⟨b, o, none⟩ ∧ ∀ i (h : i < ops.length), w.cell? ⟨b, o + i * 6, none⟩ = some (.int .i64 ops[i].kind) ∧ w.cell? ⟨b, o + i * 6 + 1, none⟩ = some (.int .i64 ops[i].on) ∧ w.cell? ⟨b, o + i * 6 + 2, none⟩ = some (.int .i64 ops[i].fr) ∧ w.cell? ⟨b, o + i * 6 + 3, none⟩ = some (.int .i64 ops[i].to) ∧ w.cell? ⟨b, o + i * 6 + 4, none⟩ = some (.slice ops[i].a ops[i].body.length ops[i].c) ∧ w.cell? ⟨b, o + i * 6 + 5, none⟩ = some (.int .i64 ops[i].num)

/-- Both nets while the script is played. -/
def Play (base gd gl : Nat) (wr : World) (b : Nat) : Prop := ∃ p m L last a n c R p' m' L' last' a' n' c' R', View base gd gl 0 wr p m L last a n c R p' m' L' last' a' n' c' R' ∧ last ≤ b ∧ last' ≤ b

theorem and_one (x : Int) : ∃ on : Nat, on < 2 ∧ bits .and .i64 x 1 = (on : Int) := by
  have key : ∀ N : Nat, N ≤ 1 → IntKind.i64.wrap (N : Int) = (N : Int) := fun N hN => by
    rcases (show N = 0 ∨ N = 1 by omega) with rfl | rfl <;> rfl
  unfold bits
  simp only
  have hle : (BitVec.ofInt IntKind.i64.bits x &&& BitVec.ofInt IntKind.i64.bits 1).toNat ≤ 1 := by
    rw [BitVec.toNat_and]
    refine Nat.le_trans Nat.and_le_right ?_
    decide
  exact ⟨_, by omega, key _ hle⟩
end Go.Proofs.Ytgjjgfppolmkoaa
