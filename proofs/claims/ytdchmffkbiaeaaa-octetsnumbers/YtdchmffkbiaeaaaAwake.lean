/- The fixed answers that every statement asks (awake) come out true, whatever the memory; the writers' answers with their new block as a letter. -/
import Derived.Test.YtdchmffkbiaeaaaText
namespace Go.Proofs.Ytdchmffkbiaeaaa
open Go.RowKit

/-- The answer is a new slice of n bytes, l; nothing old has turned. -/
def Fresh (w w' : World) (g : Nat) (l : List UInt8) : Prop := Row w' g l ∧ Below w.heap.size w w'

theorem add64_ex (a : Option Addr) (cap len v : Nat) (l : List UInt8) (w : World) (hl : l.length = len) (hlen : len ≤ 140737488355328) (hv : v < 18446744073709551616) (hat : At w a l) :
    Calls Try.prog 21 #[.slice a len cap, .int .u64 v] w fun e w' => ∃ g, e = .returned (.slice (some ⟨g, 0, none⟩) (len + 8) (len + 8)) ∧ Fresh w w' g (l ++ be 8 v) :=
  (add64_any a cap len v l w hl hlen hv hat).mono fun _ _ h => ⟨_, h.1, h.2⟩

theorem add32_ex (a : Option Addr) (cap len v : Nat) (l : List UInt8) (w : World) (hl : l.length = len) (hlen : len ≤ 140737488355328) (hv : v < 4294967296) (hat : At w a l) :
    Calls Try.prog 20 #[.slice a len cap, .int .u32 v] w fun e w' => ∃ g, e = .returned (.slice (some ⟨g, 0, none⟩) (len + 4) (len + 4)) ∧ Fresh w w' g (l ++ be 4 v) :=
  (add32_any a cap len v l w hl hlen hv hat).mono fun _ _ h => ⟨_, h.1, h.2⟩

theorem add16_ex (a : Option Addr) (cap len v : Nat) (l : List UInt8) (w : World) (hl : l.length = len) (hlen : len ≤ 140737488355328) (hv : v < 65536) (hat : At w a l) :
    Calls Try.prog 19 #[.slice a len cap, .int .u16 v] w fun e w' => ∃ g, e = .returned (.slice (some ⟨g, 0, none⟩) (len + 2) (len + 2)) ∧ Fresh w w' g (l ++ be 2 v) :=
  (add16_any a cap len v l w hl hlen hv hat).mono fun _ _ h => ⟨_, h.1, h.2⟩

theorem add8_ex (a : Option Addr) (cap len v : Nat) (l : List UInt8) (w : World) (hl : l.length = len) (hlen : len ≤ 140737488355328) (hv : v < 256) (hat : At w a l) :
    Calls Try.prog 17 #[.slice a len cap, .int .u8 v] w fun e w' => ∃ g, e = .returned (.slice (some ⟨g, 0, none⟩) (len + 1) (len + 1)) ∧ Fresh w w' g (l ++ be 1 v) :=
  (add8_any a cap len v l w hl hlen hv hat).mono fun _ _ h => ⟨_, h.1, h.2⟩

theorem addtext_ex (a : Option Addr) (cap len : Nat) (l : List UInt8) (s : ByteArray) (w : World) (hl : l.length = len) (hlen : len ≤ 281474976600000) (hs : s.size ≤ 65535) (hat : At w a l) :
    Calls Try.prog 12 #[.slice a len cap, .string s] w fun e w' => ∃ g, e = .returned (.tuple #[.slice (some ⟨g, 0, none⟩) (len + (2 + s.size)) (len + (2 + s.size)), .int .i64 0]) ∧ Fresh w w' g (l ++ be 2 s.size ++ s.data.toList) :=
  (addtext_yes a cap len l s w hl hlen hs hat).mono fun _ _ h => ⟨_, h.1, h.2⟩

theorem at_lit (w : World) (l : List UInt8) (cs : Array Value) (h : cs = (l.map B).toArray) : At (w.alloc (.cells cs 5)) (some ⟨w.heap.size, 0, none⟩) l := by
  subst h
  refine Row.at ?_
  unfold Row
  show (w.heap.push _)[w.heap.size]? = _
  simp

theorem at_lit' (w : World) (g : Nat) (l : List UInt8) (cs : Array Value) (hg : w.heap.size = g) (h : cs = (l.map B).toArray) : At (w.alloc (.cells cs 5)) (some ⟨g, 0, none⟩) l := by
  subst hg; exact at_lit w l cs h

theorem at_nil (w : World) (a : Option Addr) : At w a [] := fun h => absurd rfl h

theorem below_lit (w : World) (o : Obj) : Below w.heap.size w (w.alloc o) := (Below.refl _ _).alloc (Nat.le_refl _) _

theorem bnext {w a b : World} (h : Below w.heap.size w a) (k : Below a.heap.size a b) : Below w.heap.size w b := h.trans (k.mono h.size)

theorem fixed1 : rdV [128, 0, 0, 1] 0 4 = 2147483649 ∧ rdB [128, 0, 0, 1] 0 4 = true := by decide
theorem fixed2 : [] ++ be 2 (ByteArray.mk #[5, 6]).size ++ (ByteArray.mk #[5, 6]).data.toList = [0, 2, 5, 6] := by decide
theorem fixed3 : [9] ++ be 4 258 = [9, 0, 0, 1, 2] := by decide

set_option maxHeartbeats 400000 in
theorem awake_any (w : World) : Calls Try.prog 13 #[] w fun e w' => e = .returned (.bool true) ∧ Below w.heap.size w w' := by
  go_enter Try.func13, Try.ntmps13
  go_wp2_with fail
  refine (u32_any _ 4 4 [128, 0, 0, 1] 0 _ rfl (by omega) (at_lit w [128, 0, 0, 1] _ rfl)).mono ?_
  rintro e w' ⟨rfl, rfl⟩
  rw [fixed1.1, fixed1.2]
  go_wp2_with fail
  refine (addtext_ex none 0 0 [] ⟨#[5, 6]⟩ _ rfl (by omega) (by decide) (at_nil _ _)).mono ?_
  rintro e w1 ⟨g1, rfl, hf1⟩
  rw [fixed2] at hf1
  go_wp2_with fail
  refine (same_any _ _ 4 4 _ _ [0, 2, 5, 6] [0, 2, 5, 6] _ rfl rfl (hf1.1.at.below (below_lit _ _)) (at_lit w1 [0, 2, 5, 6] _ rfl) rfl).mono ?_
  rintro e w2 ⟨rfl, rfl⟩
  go_wp2_with fail
  refine (add32_ex _ 1 1 258 [9] _ rfl (by omega) (by omega) (at_lit' _ _ [9] _ (by simp) rfl)).mono ?_
  rintro e w3 ⟨g3, rfl, hf3⟩
  rw [fixed3] at hf3
  go_wp2_with fail
  refine (same_any _ _ 5 5 _ _ [9, 0, 0, 1, 2] [9, 0, 0, 1, 2] _ rfl rfl (hf3.1.at.below (below_lit _ _)) (at_lit w3 [9, 0, 0, 1, 2] _ rfl) rfl).mono ?_
  rintro e w4 ⟨rfl, rfl⟩
  go_wp2
  go_ret
  exact ⟨rfl, bnext (bnext (bnext (bnext (bnext (below_lit w _) hf1.2) (below_lit w1 _)) (below_lit _ _)) hf3.2) (below_lit w3 _)⟩

end Go.Proofs.Ytdchmffkbiaeaaa
