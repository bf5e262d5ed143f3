/- The bytes that lie behind an address, and what the readers of numbers (holds, number, U8 to U64) answer there; for every slice of bytes of fewer than 2^62 elements and every place. -/
import Derived.Test.YtdchmffkbiaeaaaRows
import Derived.Test.YtdchmffkbiaeaaaPlain
import Derived.WalkKit
import Derived.WalkSpells
import Derived.WalkLawsBesides
import Derived.Laws.BytesArg
import Derived.Deep.QuietTactic
import Derived.BigQuiet
namespace Go.Proofs.Ytdchmffkbiaeaaa
open Go.RowKit

/-- The bytes l lie behind the address a (nothing is asked of a where there are none). -/
def At (w : World) (a : Option Addr) (l : List UInt8) : Prop :=
  l ≠ [] → ∃ b o, a = some ⟨b, o, none⟩ ∧ ∀ i (h : i < l.length), w.cell? ⟨b, o + i, none⟩ = some (.int .u8 (l[i].toNat : Int))

theorem At.below {w w' : World} {a : Option Addr} {l : List UInt8} (h : At w a l) (hb : Below w.heap.size w w') : At w' a l := by
  intro hl
  obtain ⟨b, o, rfl, hc⟩ := h hl
  refine ⟨b, o, rfl, fun i hi => ?_⟩
  have h1 := hc i hi
  rw [hb.cell (p := ⟨b, o + i, none⟩) (by
    rcases Nat.lt_or_ge b w.heap.size with h2 | h2
    · exact h2
    · simp [World.cell?, Array.getElem?_eq_none h2] at h1)]
  exact h1

theorem ret_bool {a b : Bool} (h : a = b) : Ending.returned (.bool a) = .returned (.bool b) := by rw [h]
theorem ret_int {k : IntKind} {a b : Int} (h : a = b) : Ending.returned (.int k a) = .returned (.int k b) := by rw [h]

set_option maxHeartbeats 400000 in
theorem holds_yes (a : Option Addr) (len cap : Nat) (p : Int) (n : Nat) (w : World) (hlen : len ≤ 4611686018427387904) (hn : n ≤ 65535) (h0 : 0 ≤ p) (h1 : p + n ≤ len) :
    Calls Try.prog 26 #[.slice a len cap, .int .i64 p, .int .i64 n] w fun e w' => e = .returned (.bool true) ∧ w' = w := by
  go_enter Try.func26, Try.ntmps26
  go_wp2
  go_ret
  exact ⟨ret_bool (by simp; omega), rfl⟩

set_option maxHeartbeats 400000 in
theorem holds_no (a : Option Addr) (len cap : Nat) (p : Int) (n : Nat) (w : World) (hlen : len ≤ 4611686018427387904) (hn : n ≤ 65535) (h : ¬ (0 ≤ p ∧ p + n ≤ len)) :
    Calls Try.prog 26 #[.slice a len cap, .int .i64 p, .int .i64 n] w fun e w' => e = .returned (.bool false) ∧ w' = w := by
  by_cases h0 : 0 ≤ p
  · have h1 : (len : Int) - n < p := by omega
    clear h
    go_enter Try.func26, Try.ntmps26
    go_wp2
    go_ret
    exact ⟨ret_bool (by simp; omega), rfl⟩
  · have h1 : p < 0 := by omega
    clear h h0
    go_enter Try.func26, Try.ntmps26
    go_wp2
    go_ret
    exact ⟨rfl, rfl⟩

theorem number_no (a : Option Addr) (len cap : Nat) (p : Int) (n : Nat) (w : World) (hlen : len ≤ 4611686018427387904) (hn : n ≤ 65535) (h : ¬ (0 ≤ p ∧ p + n ≤ len)) :
    Calls Try.prog 25 #[.slice a len cap, .int .i64 p, .int .i64 n] w fun e w' => e = .returned (.tuple #[.int .u64 0, .bool false]) ∧ w' = w := by
  go_enter Try.func25, Try.ntmps25
  go_wp2_with (go_at_call 26; refine (holds_no a len cap p n _ hlen hn h).mono ?_; rintro e w' ⟨rfl, rfl⟩)
  go_ret2
  exact ⟨rfl, rfl⟩

theorem take_snoc (l : List UInt8) (k : Nat) (h : k < l.length) : l.take (k + 1) = l.take k ++ [l[k]] := List.take_succ_eq_append_getElem h

theorem or_step (N : Nat) (x : UInt8) (hN : N < 72057594037927936) : bits .or .u64 (IntKind.u64.wrap ((N : Int) * 256)) (IntKind.u64.wrap (x.toNat : Int)) = ((N * 256 + x.toNat : Nat) : Int) := by
  have hx := x.toNat_lt
  have e1 : IntKind.u64.wrap ((N : Int) * 256) = ((N * 256 : Nat) : Int) := by rw [IntKind.wrap_u64]; omega
  have e2 : IntKind.u64.wrap (x.toNat : Int) = (x.toNat : Int) := by rw [IntKind.wrap_u64]; omega
  rw [e1, e2, bits_or_u64_nat _ _ (by omega) (by omega)]
  have := Nat.two_pow_add_eq_or_of_lt (i := 8) (b := x.toNat) (by simpa using hx) N
  rw [Nat.mul_comm N 256]
  exact congrArg (fun n : Nat => (n : Int)) this.symm

theorem num_step (l : List UInt8) (p k : Nat) (h : p + k < l.length) (hk : k < 8) :
    bits .or .u64 (IntKind.u64.wrap ((numOf ((l.drop p).take k) : Int) * 256)) (IntKind.u64.wrap ((l[p + k]'h).toNat : Int)) = (numOf ((l.drop p).take (k + 1)) : Int) := by
  have h1 := numOf_lt ((l.drop p).take k)
  have h2 : 256 ^ ((l.drop p).take k).length ≤ 256 ^ 7 := Nat.pow_le_pow_right (by omega) (by simp; omega)
  rw [or_step _ _ (by omega), take_snoc (l.drop p) k (by simp; omega), numOf_snoc]
  simp

theorem number_yes (b o cap : Nat) (l : List UInt8) (p n : Nat) (w : World) (hlen : l.length ≤ 4611686018427387904) (hn : n ≤ 8) (h : p + n ≤ l.length)
    (hc : ∀ i (h : i < l.length), w.cell? ⟨b, o + i, none⟩ = some (.int .u8 (l[i].toNat : Int))) :
    Calls Try.prog 25 #[.slice (some ⟨b, o, none⟩) l.length cap, .int .i64 p, .int .i64 n] w fun e w' => e = .returned (.tuple #[.int .u64 (numOf ((l.drop p).take n) : Int), .bool true]) ∧ w' = w := by
  go_enter Try.func25, Try.ntmps25
  go_wp2_with (go_at_call 26; refine (holds_yes (some ⟨b, o, none⟩) l.length cap p n _ hlen (by omega) (by omega) (by omega)).mono ?_; rintro e w' ⟨rfl, rfl⟩)
  go_loop [8, 16] (fun v i => ∃ k : Nat, k ≤ n ∧ i = .int .i64 k ∧ v = .int .u64 (numOf ((l.drop p).take k) : Int)) (fun _ i => n - (intOf i).toNat)
  case atStart => exact ⟨0, Nat.zero_le _, rfl, rfl⟩
  case round =>
    obtain ⟨k, hk, rfl, rfl⟩ := hrel
    by_cases hlt : k < n
    · have hcx := hc (p + k) (by omega)
      go_wp2
      go_round
      case rel => exact ⟨k + 1, by omega, by go_num, by rw [num_step l p k (by omega) (by omega)]⟩
      case measure => simp [intOf]; omega
    · have hkn : k = n := by omega
      subst hkn
      go_wp2
      go_ret2
      exact ⟨rfl, rfl⟩

/-- What the bytes from p on say, n of them: the number, and whether they are all there. -/
def rdB (l : List UInt8) (p : Int) (n : Nat) : Bool := decide (0 ≤ p ∧ p + n ≤ l.length)
def rdV (l : List UInt8) (p : Int) (n : Nat) : Int := if 0 ≤ p ∧ p + n ≤ l.length then (numOf ((l.drop p.toNat).take n) : Int) else 0

theorem rdV_bounds (l : List UInt8) (p : Int) (n : Nat) : 0 ≤ rdV l p n ∧ rdV l p n < ((256 ^ n : Nat) : Int) := by
  unfold rdV
  split
  · rename_i h
    have h1 := numOf_lt ((l.drop p.toNat).take n)
    have h2 : ((l.drop p.toNat).take n).length = n := by rw [List.length_take, List.length_drop]; omega
    rw [h2] at h1
    exact ⟨by omega, Int.ofNat_lt.2 h1⟩
  · exact ⟨by omega, Int.ofNat_lt.2 (Nat.pow_pos (by omega))⟩

theorem number_any (a : Option Addr) (cap len : Nat) (l : List UInt8) (p : Int) (n : Nat) (w : World) (hl : l.length = len) (hlen : len ≤ 4611686018427387904) (hn : n ≤ 8) (hn0 : 0 < n) (hat : At w a l) :
    Calls Try.prog 25 #[.slice a len cap, .int .i64 p, .int .i64 n] w fun e w' => e = .returned (.tuple #[.int .u64 (rdV l p n), .bool (rdB l p n)]) ∧ w' = w := by
  subst hl
  by_cases h : 0 ≤ p ∧ p + n ≤ l.length
  · obtain ⟨b, o, rfl, hc⟩ := hat (by intro e; subst e; simp at h; omega)
    obtain ⟨q, rfl⟩ : ∃ q : Nat, p = q := ⟨p.toNat, by omega⟩
    have e1 : rdV l q n = (numOf ((l.drop q).take n) : Int) := by unfold rdV; rw [if_pos h]; simp
    have e2 : rdB l q n = true := by unfold rdB; exact decide_eq_true h
    rw [e1, e2]
    exact number_yes b o cap l q n w hlen hn (by omega) hc
  · have e1 : rdV l p n = 0 := by unfold rdV; rw [if_neg h]
    have e2 : rdB l p n = false := by unfold rdB; exact decide_eq_false h
    rw [e1, e2]
    exact number_no a l.length cap p n w hlen (by omega) h

theorem u64_any (a : Option Addr) (cap len : Nat) (l : List UInt8) (p : Int) (w : World) (hl : l.length = len) (hlen : len ≤ 4611686018427387904) (hat : At w a l) :
    Calls Try.prog 8 #[.slice a len cap, .int .i64 p] w fun e w' => e = .returned (.tuple #[.int .u64 (rdV l p 8), .bool (rdB l p 8)]) ∧ w' = w := by
  go_enter Try.func8, Try.ntmps8
  go_wp2_with (go_at_call 25; refine (number_any a cap len l p 8 _ hl hlen (by omega) (by omega) hat).mono ?_; rintro e w' ⟨rfl, rfl⟩)
  go_ret2
  exact ⟨rfl, rfl⟩

theorem tuple_two {k : IntKind} {a b : Int} {c : Bool} (h : a = b) : Ending.returned (.tuple #[.int k a, .bool c]) = .returned (.tuple #[.int k b, .bool c]) := by rw [h]

theorem u32_any (a : Option Addr) (cap len : Nat) (l : List UInt8) (p : Int) (w : World) (hl : l.length = len) (hlen : len ≤ 4611686018427387904) (hat : At w a l) :
    Calls Try.prog 10 #[.slice a len cap, .int .i64 p] w fun e w' => e = .returned (.tuple #[.int .u32 (rdV l p 4), .bool (rdB l p 4)]) ∧ w' = w := by
  go_enter Try.func10, Try.ntmps10
  go_wp2_with (go_at_call 25; refine (number_any a cap len l p 4 _ hl hlen (by omega) (by omega) hat).mono ?_; rintro e w' ⟨rfl, rfl⟩)
  go_ret2
  have hb := rdV_bounds l p 4
  exact ⟨tuple_two (by omega), rfl⟩

theorem u16_any (a : Option Addr) (cap len : Nat) (l : List UInt8) (p : Int) (w : World) (hl : l.length = len) (hlen : len ≤ 4611686018427387904) (hat : At w a l) :
    Calls Try.prog 7 #[.slice a len cap, .int .i64 p] w fun e w' => e = .returned (.tuple #[.int .u16 (rdV l p 2), .bool (rdB l p 2)]) ∧ w' = w := by
  go_enter Try.func7, Try.ntmps7
  go_wp2_with (go_at_call 25; refine (number_any a cap len l p 2 _ hl hlen (by omega) (by omega) hat).mono ?_; rintro e w' ⟨rfl, rfl⟩)
  go_ret2
  have hb := rdV_bounds l p 2
  exact ⟨tuple_two (by simp [IntKind.wrap, IntKind.bits, IntKind.signed]; omega), rfl⟩

theorem u8_any (a : Option Addr) (cap len : Nat) (l : List UInt8) (p : Int) (w : World) (hl : l.length = len) (hlen : len ≤ 4611686018427387904) (hat : At w a l) :
    Calls Try.prog 9 #[.slice a len cap, .int .i64 p] w fun e w' => e = .returned (.tuple #[.int .u8 (rdV l p 1), .bool (rdB l p 1)]) ∧ w' = w := by
  go_enter Try.func9, Try.ntmps9
  go_wp2_with (go_at_call 25; refine (number_any a cap len l p 1 _ hl hlen (by omega) (by omega) hat).mono ?_; rintro e w' ⟨rfl, rfl⟩)
  go_ret2
  have hb := rdV_bounds l p 1
  exact ⟨tuple_two (by omega), rfl⟩

end Go.Proofs.Ytdchmffkbiaeaaa
