/- What the readers of numbers (holds, number, U32) and the writers (longer, put, add, Add8, Add32) answer; for every slice of bytes of at most 2^47 elements. -/
import Derived.Test.YtcbgnodmamcmkaaKeep
import Derived.Test.YtcbgnodmamcmkaaNum
namespace Go.Proofs.Ytcbgnodmamcmkaa
open Go.RowKit

set_option maxHeartbeats 400000 in
theorem holds_yes (a : Option Addr) (len cap : Nat) (p : Int) (n : Nat) (w : World) (hlen : len ≤ 4611686018427387904) (hn : n ≤ 65535) (h0 : 0 ≤ p) (h1 : p + n ≤ len) :
    Calls Try.prog 109 #[.slice a len cap, .int .i64 p, .int .i64 n] w fun e w' => e = .returned (.bool true) ∧ w' = w := by
  go_enter Try.func109, Try.ntmps109
  go_wp2
  go_ret
  exact ⟨ret_bool (by simp; omega), rfl⟩

set_option maxHeartbeats 400000 in
theorem holds_no (a : Option Addr) (len cap : Nat) (p : Int) (n : Nat) (w : World) (hlen : len ≤ 4611686018427387904) (hn : n ≤ 65535) (h : ¬ (0 ≤ p ∧ p + n ≤ len)) :
    Calls Try.prog 109 #[.slice a len cap, .int .i64 p, .int .i64 n] w fun e w' => e = .returned (.bool false) ∧ w' = w := by
  by_cases h0 : 0 ≤ p
  · have h1 : (len : Int) - n < p := by omega
    clear h
    go_enter Try.func109, Try.ntmps109
    go_wp2
    go_ret
    exact ⟨ret_bool (by simp; omega), rfl⟩
  · have h1 : p < 0 := by omega
    clear h h0
    go_enter Try.func109, Try.ntmps109
    go_wp2
    go_ret
    exact ⟨rfl, rfl⟩

theorem number_no (a : Option Addr) (len cap : Nat) (p : Int) (n : Nat) (w : World) (hlen : len ≤ 4611686018427387904) (hn : n ≤ 65535) (h : ¬ (0 ≤ p ∧ p + n ≤ len)) :
    Calls Try.prog 108 #[.slice a len cap, .int .i64 p, .int .i64 n] w fun e w' => e = .returned (.tuple #[.int .u64 0, .bool false]) ∧ w' = w := by
  go_enter Try.func108, Try.ntmps108
  go_wp2_with (go_at_call 109; refine (holds_no a len cap p n _ hlen hn h).mono ?_; rintro e w' ⟨rfl, rfl⟩)
  go_ret2
  exact ⟨rfl, rfl⟩

theorem take_snoc (l : List UInt8) (k : Nat) (h : k < l.length) : l.take (k + 1) = l.take k ++ [l[k]] := List.take_succ_eq_append_getElem h

theorem or_step (N : Nat) (x : UInt8) (hN : N < 72057594037927936) : bits .or .u64 (IntKind.u64.wrap ((N : Int) * 256)) (IntKind.u64.wrap (x.toNat : Int)) = ((N * 256 + x.toNat : Nat) : Int) := by
  have hx := x.toNat_lt
  have e1 : IntKind.u64.wrap ((N : Int) * 256) = ((N * 256 : Nat) : Int) := by rw [IntKind.wrap_u64]; omega
  have e2 : IntKind.u64.wrap (x.toNat : Int) = (x.toNat : Int) := by rw [IntKind.wrap_u64]; omega
  rw [e1, e2, bits_or_u64_nat _ _ (by omega) (by omega)]
  have := Nat.two_pow_add_eq_or_of_lt (i := 8) (b := x.toNat) (by simpa using hx) N
  rw [Nat.mul_comm N 256]
  exact congrArg (fun n : Nat => (n : Int)) this.symm

theorem num_step (l : List UInt8) (p k : Nat) (h : p + k < l.length) (hk : k < 8) :
    bits .or .u64 (IntKind.u64.wrap ((numOf ((l.drop p).take k) : Int) * 256)) (IntKind.u64.wrap ((l[p + k]'h).toNat : Int)) = (numOf ((l.drop p).take (k + 1)) : Int) := by
  have h1 := numOf_lt ((l.drop p).take k)
  have h2 : 256 ^ ((l.drop p).take k).length ≤ 256 ^ 7 := Nat.pow_le_pow_right (by omega) (by simp; omega)
  rw [or_step _ _ (by omega), take_snoc (l.drop p) k (by simp; omega), numOf_snoc]
  simp

theorem number_yes (b o cap : Nat) (l : List UInt8) (p n : Nat) (w : World) (hlen : l.length ≤ 4611686018427387904) (hn : n ≤ 8) (h : p + n ≤ l.length)
    (hc : ∀ i (h : i < l.length), w.cell? ⟨b, o + i, none⟩ = some (.int .u8 (l[i].toNat : Int))) :
    Calls Try.prog 108 #[.slice (some ⟨b, o, none⟩) l.length cap, .int .i64 p, .int .i64 n] w fun e w' => e = .returned (.tuple #[.int .u64 (numOf ((l.drop p).take n) : Int), .bool true]) ∧ w' = w := by
  go_enter Try.func108, Try.ntmps108
  go_wp2_with (go_at_call 109; refine (holds_yes (some ⟨b, o, none⟩) l.length cap p n _ hlen (by omega) (by omega) (by omega)).mono ?_; rintro e w' ⟨rfl, rfl⟩)
  go_loop [8, 16] (fun v i => ∃ k : Nat, k ≤ n ∧ i = .int .i64 k ∧ v = .int .u64 (numOf ((l.drop p).take k) : Int)) (fun _ i => n - (intOf i).toNat)
  case atStart => exact ⟨0, Nat.zero_le _, rfl, rfl⟩
  case round =>
    obtain ⟨k, hk, rfl, rfl⟩ := hrel
    by_cases hlt : k < n
    · have hcx := hc (p + k) (by omega)
      go_wp2
      go_round
      case rel => exact ⟨k + 1, by omega, by go_num, by rw [num_step l p k (by omega) (by omega)]⟩
      case measure => simp [intOf]; omega
    · have hkn : k = n := by omega
      subst hkn
      go_wp2
      go_ret2
      exact ⟨rfl, rfl⟩

/-- What the bytes from p on say, n of them: the number, and whether they are all there. -/
def rdB (l : List UInt8) (p : Int) (n : Nat) : Bool := decide (0 ≤ p ∧ p + n ≤ l.length)

def rdV (l : List UInt8) (p : Int) (n : Nat) : Int := if 0 ≤ p ∧ p + n ≤ l.length then (numOf ((l.drop p.toNat).take n) : Int) else 0

theorem rdV_bounds (l : List UInt8) (p : Int) (n : Nat) : 0 ≤ rdV l p n ∧ rdV l p n < ((256 ^ n : Nat) : Int) := by
  unfold rdV
  split
  · rename_i h
    have h1 := numOf_lt ((l.drop p.toNat).take n)
    have h2 : ((l.drop p.toNat).take n).length = n := by rw [List.length_take, List.length_drop]; omega
    rw [h2] at h1
    exact ⟨by omega, Int.ofNat_lt.2 h1⟩
  · exact ⟨by omega, Int.ofNat_lt.2 (Nat.pow_pos (by omega))⟩

theorem number_any (a : Option Addr) (cap len : Nat) (l : List UInt8) (p : Int) (n : Nat) (w : World) (hl : l.length = len) (hlen : len ≤ 4611686018427387904) (hn : n ≤ 8) (hn0 : 0 < n) (hat : At w a l) :
    Calls Try.prog 108 #[.slice a len cap, .int .i64 p, .int .i64 n] w fun e w' => e = .returned (.tuple #[.int .u64 (rdV l p n), .bool (rdB l p n)]) ∧ w' = w := by
  subst hl
  by_cases h : 0 ≤ p ∧ p + n ≤ l.length
  · obtain ⟨b, o, rfl, hc⟩ := hat (by intro e; subst e; simp at h; omega)
    obtain ⟨q, rfl⟩ : ∃ q : Nat, p = q := ⟨p.toNat, by omega⟩
    have e1 : rdV l q n = (numOf ((l.drop q).take n) : Int) := by unfold rdV; rw [if_pos h]; simp
    have e2 : rdB l q n = true := by unfold rdB; exact decide_eq_true h
    rw [e1, e2]
    exact number_yes b o cap l q n w hlen hn (by omega) hc
  · have e1 : rdV l p n = 0 := by unfold rdV; rw [if_neg h]
    have e2 : rdB l p n = false := by unfold rdB; exact decide_eq_false h
    rw [e1, e2]
    exact number_no a l.length cap p n w hlen (by omega) h

theorem tuple_two {k : IntKind} {a b : Int} {c : Bool} (h : a = b) : Ending.returned (.tuple #[.int k a, .bool c]) = .returned (.tuple #[.int k b, .bool c]) := by rw [h]

theorem u32_any (a : Option Addr) (cap len : Nat) (l : List UInt8) (p : Int) (w : World) (hl : l.length = len) (hlen : len ≤ 4611686018427387904) (hat : At w a l) :
    Calls Try.prog 100 #[.slice a len cap, .int .i64 p] w fun e w' => e = .returned (.tuple #[.int .u32 (rdV l p 4), .bool (rdB l p 4)]) ∧ w' = w := by
  go_enter Try.func100, Try.ntmps100
  go_wp2_with (go_at_call 108; refine (number_any a cap len l p 4 _ hl hlen (by omega) (by omega) hat).mono ?_; rintro e w' ⟨rfl, rfl⟩)
  go_ret2
  have hb := rdV_bounds l p 4
  exact ⟨tuple_two (by omega), rfl⟩

/-- The bytes behind copying l over z from place o on. -/
def over (z : List UInt8) (o : Nat) (l : List UInt8) : List UInt8 := z.take o ++ l ++ z.drop (o + l.length)

theorem over_length (z : List UInt8) (o : Nat) (l : List UInt8) (h : o + l.length ≤ z.length) : (over z o l).length = z.length := by
  unfold over; simp; omega

theorem row_setRow {w : World} {g o : Nat} {z l : List UInt8} (h : Row w g z) :
    Row (w.setRow g ((z.map B).toArray.toList.take (o + 0) ++ l.map B ++ (z.map B).toArray.toList.drop (o + 0 + (l.map B).length)).toArray) g (over z o l) := by
  unfold Row at *
  rw [setRow_heap w g _ _ 5 _ h]
  simp [over, List.map_take, List.map_drop]

theorem store_run (w : World) (g o : Nat) (z l : List UInt8) (h : Row w g z) (hf : o + l.length ≤ z.length) :
    ∃ w2, (storeCells ⟨g, o, none⟩ (l.map B) 0).run Try.prog w = .ok () w2 ∧ Row w2 g (over z o l) ∧ Below g w w2 ∧ w2.heap.size = w.heap.size := by
  refine ⟨_, run_storeCells_at Try.prog g o 5 (l.map B) 0 _ w h (by simpa using hf) (by intro v hv; simp at hv; obtain ⟨x, _, rfl⟩ := hv; rfl), row_setRow h, below_setRow (Below.refl _ _) (Nat.le_refl _) _, by simp [World.setRow]⟩

theorem copy_run (w : World) (g o : Nat) (z l : List UInt8) (h : Row w g z) (dLen dCap sCap : Nat) (a : Option Addr) (hd : l.length ≤ dLen) (hf : o + dLen ≤ z.length) (hat : At w a l) :
    ∃ w2, (Builtin.copy_ #[22, 22] 3 #[.slice (some ⟨g, o, none⟩) dLen dCap, .slice a l.length sCap]).run Try.prog w = .ok (goInt l.length) w2 ∧ Row w2 g (over z o l) ∧ Below g w w2 ∧ w2.heap.size = w.heap.size := by
  obtain ⟨w2, hs, h1, h2, h3⟩ := store_run w g o z l h (by omega)
  refine ⟨w2, ?_, h1, h2, h3⟩
  have hmin : Nat.min l.length dLen = l.length := Nat.min_eq_left hd
  obtain ⟨i0, hi, hz0, hz1, hz2⟩ := info_parts info5
  by_cases e : l = []
  · subst e
    have hl : ∀ (x : Addr), (loadCells x 0).run Try.prog w = .ok #[] w := fun x => by simpa using run_loadCells_list (P := Try.prog) w x [] (by simp)
    cases a <;> simp [Builtin.copy_, run_underlying Try.underlying22, Builtin.lenOf, Builtin.firstCells, sizeOf, typeInfo, hi, hl] at hs ⊢ <;> simp [hs]
  · obtain ⟨b, q, rfl, hc⟩ := hat e
    have hl := run_loadCells_list (P := Try.prog) w ⟨b, q, none⟩ (l.map B) (fun j v hj => by
      have hjl : j < l.length := by
        rcases Nat.lt_or_ge j l.length with h | h
        · exact h
        · simp [List.getElem?_eq_none (show (l.map B).length ≤ j by simpa using h)] at hj
      have hplain : (⟨b, q, none⟩ : Addr).add j = ⟨b, q + j, none⟩ := by unfold Addr.add; split <;> simp_all
      rw [hplain, hc j hjl]
      simp [List.getElem?_eq_getElem hjl] at hj
      subst hj
      rfl)
    simp only [List.length_map] at hl
    simp [Builtin.copy_, run_underlying Try.underlying22, Builtin.lenOf, Builtin.firstCells, sizeOf, typeInfo, hi, hz1, hmin, hl, hs]

set_option maxHeartbeats 400000 in
theorem longer_any (a : Option Addr) (cap len m : Nat) (l : List UInt8) (w : World) (hl : l.length = len) (hlen : len + m ≤ 281474976710656) (hat : At w a l) :
    Calls Try.prog 103 #[.slice a len cap, .int .i64 m] w fun e w' => e = .returned (.slice (some ⟨w.heap.size, 0, none⟩) (len + m) (len + m)) ∧ Row w' w.heap.size (l ++ List.replicate m 0) ∧ Below w.heap.size w w' := by
  subst hl
  obtain ⟨i0, hi, hz0, hz1, hz2⟩ := info_parts info5
  go_enter Try.func103, Try.ntmps103
  go_wp2_with (at_make; refine wpList_make_full _ rfl (.tmp 9) (.tmp 9) 22 rfl w.heap.size 5 i0 (.int .u8 0) 1 Try.underlying22 hi hz0 hz1 .i64 .i64 _ _ (l.length + m) rfl rfl (by omega) (by omega) (by rw [hz2]; omega) (by unfold maxLen; omega) (Nat.le_refl _) ?_; intro w1 hown hgrow; have hrow := row_made hown; have hb1 := (Below.refl _ _).grown hgrow (Nat.le_refl _) (fun k hk => by cases hk); obtain ⟨w2, hrun, hrow2, hb2, hz⟩ := copy_run w1 w.heap.size 0 _ l hrow (l.length + m) (l.length + m) cap a (by omega) (by simp) (hat.below hb1); clear hown hgrow hrow)
  go_ret
  have e : over (List.replicate (l.length + m) 0) 0 l = l ++ List.replicate m 0 := by simp [over]
  rw [e] at hrow2
  exact ⟨rfl, hrow2, hb1.trans hb2⟩

theorem over_step (z L : List UInt8) (p k : Nat) (hk : k < L.length) (h : p + L.length ≤ z.length) : (over z p (L.take k)).set (p + k) L[k] = over z p (L.take (k + 1)) := by
  unfold over
  rw [take_snoc L k hk, List.length_append, List.length_take, Nat.min_eq_left (by omega), List.length_singleton]
  have hd : z.drop (p + k) = z[p + k]'(by omega) :: z.drop (p + (k + 1)) := by rw [List.drop_eq_getElem_cons (by omega)]; rfl
  rw [hd, List.set_append_right _ _ (by simp; omega)]
  simp
  rw [Nat.min_eq_left (by omega), Nat.min_eq_left (by omega)]
  simp
  rw [take_snoc L k hk, List.append_assoc]
  rfl

theorem byte_val (n v k : Nat) (h : k < n) : B ((be n v)[k]'(by rw [be_length]; exact h)) = .int .u8 ((v : Int) / 2 ^ (8 * (n - 1 - k)) % 256) := by
  rw [be_get n v k h]
  unfold B
  simp only [UInt8.toNat_ofNat']
  rw [show (2 : Int) ^ (8 * (n - 1 - k)) = ((256 ^ (n - 1 - k) : Nat) : Int) by rw [Int.pow_mul]; simp]
  simp

set_option maxHeartbeats 400000 in
theorem put_any (g cap len p n v : Nat) (z : List UInt8) (w : World) (hl : z.length = len) (hlen : len ≤ 281474976710656) (hn : n ≤ 8) (hp : p + n ≤ len) (_hv : v < 18446744073709551616) (hrow : Row w g z) :
    Calls Try.prog 104 #[.slice (some ⟨g, 0, none⟩) len cap, .int .i64 p, .int .u64 v, .int .i64 n] w fun e w' => e = .returned (.tuple #[]) ∧ Row w' g (over z p (be n v)) ∧ Below g w w' ∧ w'.heap.size = w.heap.size := by
  subst hl
  go_enter Try.func104, Try.ntmps104
  go_wp2
  go_loopw [10] (fun i wr => ∃ k : Nat, k ≤ n ∧ i = .int .i64 k ∧ Row wr g (over z p ((be n v).take k)) ∧ Below g w wr ∧ wr.heap.size = w.heap.size) (fun i _ => n - (intOf i).toNat)
  case atStart => exact ⟨0, Nat.zero_le _, rfl, by simpa [over] using hrow, Below.refl _ _, rfl⟩
  case round =>
    obtain ⟨k, hk, rfl, hr, hb, hz⟩ := hrel
    by_cases hlt : k < n
    · have hlk : (over z p ((be n v).take k)).length = z.length := over_length _ _ _ (by simp [be_length]; omega)
      have hcx := hr.cell (p + k) (by omega)
      have hfx := hr.free (p + k)
      go_wp2
      go_roundw
      case rel =>
        rw [← byte_val n v k hlt]
        refine ⟨k + 1, by omega, by go_num, ?_, hb.setCell (Nat.le_refl _) _, by rw [World.size_setCell]; exact hz⟩
        have := hr.set (p + k) ((be n v)[k]'(by rw [be_length]; exact hlt))
        rwa [over_step z (be n v) p k (by rw [be_length]; exact hlt) (by rw [be_length]; exact hp)] at this
      case measure => simp [intOf]; omega
    · have hkn : k = n := by omega
      subst hkn
      go_wp2
      go_end0
      rw [List.take_of_length_le (by rw [be_length]; omega)] at hr
      exact ⟨rfl, hr, hb, hz⟩

theorem over_end (l : List UInt8) (n v : Nat) : over (l ++ List.replicate n 0) l.length (be n v) = l ++ be n v := by
  simp [over, be_length]

/-- What a writer of n bytes leaves: a new row with the bytes, nothing old turned. -/
theorem o_add_any (a : Option Addr) (cap len n v : Nat) (l : List UInt8) (w : World) (hl : l.length = len) (hlen : len + n ≤ 281474976710656) (hn : n ≤ 8) (hv : v < 18446744073709551616) (hat : At w a l) :
    Calls Try.prog 96 #[.slice a len cap, .int .u64 v, .int .i64 n] w fun e w' => e = .returned (.slice (some ⟨w.heap.size, 0, none⟩) (len + n) (len + n)) ∧ Row w' w.heap.size (l ++ be n v) ∧ Below w.heap.size w w' := by
  subst hl
  go_enter Try.func96, Try.ntmps96
  go_wp2_with (first | (go_at_call 103; refine (longer_any a cap l.length n l _ rfl hlen hat).mono ?_; rintro e w1 ⟨rfl, hrow, hb1⟩) | (go_at_call 104; refine (put_any w.heap.size _ (l.length + n) l.length n v _ _ (by simp) hlen hn (by omega) hv hrow).mono ?_; rintro e w2 ⟨rfl, hrow2, hb2, hz2⟩))
  go_ret
  rw [over_end] at hrow2
  exact ⟨rfl, hrow2, hb1.trans hb2⟩

theorem add32_any (a : Option Addr) (cap len v : Nat) (l : List UInt8) (w : World) (hl : l.length = len) (hlen : len ≤ 140737488355328) (hv : v < 4294967296) (hat : At w a l) :
    Calls Try.prog 79 #[.slice a len cap, .int .u32 v] w fun e w' => e = .returned (.slice (some ⟨w.heap.size, 0, none⟩) (len + 4) (len + 4)) ∧ Row w' w.heap.size (l ++ be 4 v) ∧ Below w.heap.size w w' := by
  go_enter Try.func79, Try.ntmps79
  go_wp2_with (go_at_call 96; refine (o_add_any a cap len 4 v l _ hl (by omega) (by omega) (by omega) hat).mono ?_; rintro e w1 ⟨rfl, hrow, hb1⟩)
  go_ret
  exact ⟨rfl, hrow, hb1⟩

theorem add8_any (a : Option Addr) (cap len v : Nat) (l : List UInt8) (w : World) (hl : l.length = len) (hlen : len ≤ 140737488355328) (hv : v < 256) (hat : At w a l) :
    Calls Try.prog 77 #[.slice a len cap, .int .u8 v] w fun e w' => e = .returned (.slice (some ⟨w.heap.size, 0, none⟩) (len + 1) (len + 1)) ∧ Row w' w.heap.size (l ++ be 1 v) ∧ Below w.heap.size w w' := by
  go_enter Try.func77, Try.ntmps77
  go_wp2_with (go_at_call 96; refine (o_add_any a cap len 1 v l _ hl (by omega) (by omega) (by omega) hat).mono ?_; rintro e w1 ⟨rfl, hrow, hb1⟩)
  go_ret
  exact ⟨rfl, hrow, hb1⟩

theorem add32_ex (a : Option Addr) (cap len v : Nat) (l : List UInt8) (w : World) (hl : l.length = len) (hlen : len ≤ 140737488355328) (hv : v < 4294967296) (hat : At w a l) :
    Calls Try.prog 79 #[.slice a len cap, .int .u32 v] w fun e w' => ∃ g, e = .returned (.slice (some ⟨g, 0, none⟩) (len + 4) (len + 4)) ∧ w.heap.size ≤ g ∧ Fresh w w' g (l ++ be 4 v) :=
  (add32_any a cap len v l w hl hlen hv hat).mono fun _ _ h => ⟨_, h.1, Nat.le_refl _, h.2⟩

theorem add8_ex (a : Option Addr) (cap len v : Nat) (l : List UInt8) (w : World) (hl : l.length = len) (hlen : len ≤ 140737488355328) (hv : v < 256) (hat : At w a l) :
    Calls Try.prog 77 #[.slice a len cap, .int .u8 v] w fun e w' => ∃ g, e = .returned (.slice (some ⟨g, 0, none⟩) (len + 1) (len + 1)) ∧ w.heap.size ≤ g ∧ Fresh w w' g (l ++ be 1 v) :=
  (add8_any a cap len v l w hl hlen hv hat).mono fun _ _ h => ⟨_, h.1, Nat.le_refl _, h.2⟩

end Go.Proofs.Ytcbgnodmamcmkaa
