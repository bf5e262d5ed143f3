/- The document's numbers and sum in bytes. -/
import Derived.Test.YtcbgnodmamcmkaaOct
import Derived.Test.YtcbgnodmamcmkaaSums
import Derived.Test.YtcbgnodmamcmkaaEnt
import Derived.Laws.Unary
namespace Go.Proofs.Ytcbgnodmamcmkaa
open Go.RowKit

theorem refnum_no (a : Option Addr) (len cap : Nat) (p : Int) (n : Nat) (w : World) (hlen : len ≤ 140737488355328) (hn : n ≤ 8) (h : ¬ (0 ≤ p ∧ p + n ≤ len)) :
    Calls Try.prog 89 #[.slice a len cap, .int .i64 p, .int .i64 n] w fun e w' => e = .returned (.tuple #[.int .u64 0, .bool false]) ∧ w' = w := by
  by_cases h0 : p < 0
  · clear h
    go_enter Try.func89, Try.ntmps89
    go_wp2
    go_ret2
    exact ⟨rfl, rfl⟩
  · by_cases h1 : len < n
    · have h2 : (len : Int) < n := by omega
      clear h
      go_enter Try.func89, Try.ntmps89
      go_wp2
      go_ret2
      exact ⟨rfl, rfl⟩
    · have h2 : (len : Int) - n < p := by omega
      have h3 : ¬ (len : Int) < n := by omega
      clear h
      go_enter Try.func89, Try.ntmps89
      go_wp2
      go_ret2
      exact ⟨rfl, rfl⟩

theorem num_step' (l : List UInt8) (p k : Nat) (h : p + k < l.length) (hk : k < 8) :
    IntKind.u64.wrap (IntKind.u64.wrap (256 * (numOf ((l.drop p).take k) : Int)) + IntKind.u64.wrap ((l[p + k]'h).toNat : Int)) = (numOf ((l.drop p).take (k + 1)) : Int) := by
  have h1 := numOf_lt ((l.drop p).take k)
  have h2 : 256 ^ ((l.drop p).take k).length ≤ 256 ^ 7 := Nat.pow_le_pow_right (by omega) (by simp; omega)
  have h3 := (l[p + k]'h).toNat_lt
  rw [take_snoc (l.drop p) k (by simp; omega), numOf_snoc]
  simp only [List.getElem_drop, IntKind.wrap_u64]
  omega

theorem refnum_yes (b o cap : Nat) (l : List UInt8) (p n : Nat) (w : World) (hlen : l.length ≤ 140737488355328) (hn : n ≤ 8) (h : p + n ≤ l.length)
    (hc : ∀ i (h : i < l.length), w.cell? ⟨b, o + i, none⟩ = some (.int .u8 (l[i].toNat : Int))) :
    Calls Try.prog 89 #[.slice (some ⟨b, o, none⟩) l.length cap, .int .i64 p, .int .i64 n] w fun e w' => e = .returned (.tuple #[.int .u64 (numOf ((l.drop p).take n) : Int), .bool true]) ∧ w' = w := by
  have h2 : ¬ (l.length : Int) < n := by omega
  have h3 : ¬ (l.length : Int) - n < p := by omega
  go_enter Try.func89, Try.ntmps89
  go_wp2
  go_loop [8, 9] (fun v i => ∃ k : Nat, k ≤ n ∧ i = .int .i64 k ∧ v = .int .u64 (numOf ((l.drop p).take k) : Int)) (fun _ i => n - (intOf i).toNat)
  case atStart => exact ⟨0, Nat.zero_le _, rfl, rfl⟩
  case round =>
    obtain ⟨k, hk, rfl, rfl⟩ := hrel
    by_cases hlt : k < n
    · have hcx := hc (p + k) (by omega)
      go_wp2
      go_round
      case rel => exact ⟨k + 1, by omega, by go_num, by rw [num_step' l p k (by omega) (by omega)]⟩
      case measure => simp [intOf]; omega
    · have hkn : k = n := by omega
      subst hkn
      go_wp2
      go_ret2
      exact ⟨rfl, rfl⟩

theorem refnum_any (a : Option Addr) (cap len : Nat) (l : List UInt8) (p : Int) (n : Nat) (w : World) (hl : l.length = len) (hlen : len ≤ 140737488355328) (hn : n ≤ 8) (hn0 : 0 < n) (hat : At w a l) :
    Calls Try.prog 89 #[.slice a len cap, .int .i64 p, .int .i64 n] w fun e w' => e = .returned (.tuple #[.int .u64 (rdV l p n), .bool (rdB l p n)]) ∧ w' = w := by
  subst hl
  by_cases h : 0 ≤ p ∧ p + n ≤ l.length
  · obtain ⟨b, o, rfl, hc⟩ := hat (by intro e; subst e; simp at h; omega)
    obtain ⟨q, rfl⟩ : ∃ q : Nat, p = q := ⟨p.toNat, by omega⟩
    have e1 : rdV l q n = (numOf ((l.drop q).take n) : Int) := by unfold rdV; rw [if_pos h]; simp
    have e2 : rdB l q n = true := by unfold rdB; exact decide_eq_true h
    rw [e1, e2]
    exact refnum_yes b o cap l q n w hlen hn (by omega) hc
  · have e1 : rdV l p n = 0 := by unfold rdV; rw [if_neg h]
    have e2 : rdB l p n = false := by unfold rdB; exact decide_eq_false h
    rw [e1, e2]
    exact refnum_no a l.length cap p n w hlen (by omega) h

/-- The bytes of v, lowest first. -/
def low : Nat → Nat → List UInt8
  | 0, _ => []
  | n + 1, v => low n v ++ [UInt8.ofNat (v / 256 ^ n)]

theorem low_length : ∀ n v, (low n v).length = n
  | 0, _ => rfl
  | n + 1, v => by simp [low, low_length n]

theorem low_get : ∀ (n v i : Nat) (h : i < n), (low n v)[i]'(by rw [low_length]; exact h) = UInt8.ofNat (v / 256 ^ i)
  | n + 1, v, i, h => by
    simp only [low]
    by_cases hi : i < n
    · rw [List.getElem_append_left (by rw [low_length]; exact hi), low_get n v i hi]
    · have : i = n := by omega
      subst this
      rw [List.getElem_append_right (by rw [low_length]; omega)]
      simp [low_length]

theorem be_low (n v k : Nat) (h : k < n) : (be n v).take (k + 1) = (be n v).take k ++ [(low n v)[n - 1 - k]'(by rw [low_length]; omega)] := by
  rw [take_snoc (be n v) k (by rw [be_length]; exact h), be_get n v k h, low_get n v (n - 1 - k) (by omega)]

theorem lit_byte (V : Nat) : #[Value.int .u8 ((V : Int) % 256)] = ([UInt8.ofNat V].map B).toArray := by simp [B]

theorem lit_one (x : UInt8) : #[Value.int .u8 (x.toNat : Int)] = ([x].map B).toArray := by simp [B]

theorem be_back (n v r : Nat) (h : r < n) : (be n v).take (n - r) = (be n v).take (n - (r + 1)) ++ [(low n v)[r]'(by rw [low_length]; omega)] := by
  have := be_low n v (n - (r + 1)) (by omega)
  rw [show n - r = n - (r + 1) + 1 by omega, this]
  congr 3
  omega

theorem div_step (V v k : Nat) (h : V = v / 256 ^ k) : (V : Int) / 256 = ((v / 256 ^ (k + 1) : Nat) : Int) := by
  rw [Nat.pow_succ, ← Nat.div_div_eq_div_mul, ← h]; rfl

set_option maxHeartbeats 400000 in
theorem refadd_any (a : Option Addr) (cap len n v : Nat) (l : List UInt8) (w : World) (hl : l.length = len) (hlen : len ≤ 140737488355328) (hn : n ≤ 8) (hn0 : 0 < n) (hv : v < 18446744073709551616) (hat : At w a l) :
    Calls Try.prog 87 #[.slice a len cap, .int .u64 v, .int .i64 n] w fun e w' => ∃ r, e = .returned r ∧ Own w' w.heap.size r (l ++ be n v) ∧ Below w.heap.size w w' := by
  go_enter Try.func87, Try.ntmps87
  go_wp2
  go_loopw [7, 1, 8] (fun lv vv i wr => ∃ k : Nat, k ≤ n ∧ i = .int .i64 k ∧ vv = .int .u64 ((v / 256 ^ k : Nat) : Int) ∧ Own wr w.heap.size lv (low k v) ∧ Below w.heap.size w wr) (fun _ _ i _ => n - (intOf i).toNat)
  case atStart => exact ⟨0, Nat.zero_le _, rfl, by simp, Own.nil _ _, Below.refl _ _⟩
  case round =>
    obtain ⟨k, hk, rfl, rfl, hown, hb⟩ := hrel
    have hz := hb.size
    have hdv : v / 256 ^ k < 18446744073709551616 := Nat.lt_of_le_of_lt (Nat.div_le_self _ _) hv
    obtain ⟨V, hV⟩ : ∃ V, V = v / 256 ^ k := ⟨_, rfl⟩
    rw [← hV] at hdv
    rw [← hV]
    by_cases hlt : k < n
    · have HV : Hid (V = v / 256 ^ k) := hV
      clear hV
      go_wp2_with (at_builtin; refine wpList_app _ rfl (.tmp 16) (.tmp 20) rfl rfl w.heap.size _ (low k v) [UInt8.ofNat V] rfl (hown.alloc _) (some ⟨wr.heap.size, 0, none⟩) 1 1 rfl rfl (at_lit wr [UInt8.ofNat V] _ (lit_byte V)) (by rw [low_length]; omega) (by simp; omega) ?_; intro v1 w1 ho1 hb1)
      go_roundw
      case rel => exact ⟨k + 1, by omega, by go_num, by rw [div_step V v k HV.out], by rw [HV.out] at ho1; exact ho1, (hb.alloc hz _).trans hb1⟩
      case measure => simp [intOf]; omega
    · obtain rfl : k = n := by omega
      clear hV hdv
      obtain ⟨w1, rfl⟩ : ∃ w1 : World, w1 = wr := ⟨_, rfl⟩
      obtain ⟨g, c, hv7, hc7, hat7⟩ := hown.form_pos (by intro e; have := congrArg List.length e; rw [low_length] at this; simp at this; omega)
      rw [low_length] at hv7
      subst hv7
      go_wp2_with (at_builtin; refine wpList_app _ rfl (.tmp 24) (.tmp 25) rfl rfl w1.heap.size _ [] l rfl (Own.nil _ _) a len cap rfl hl (hat.below hb) (by simp; omega) (Nat.le_refl _) ?_; intro v2 w2 ho2 hb2)
      go_loopw [9, 10] (fun ov i wr => ∃ q : Nat, q ≤ k ∧ i = .int .i64 ((q : Int) - 1) ∧ Own wr w1.heap.size ov (l ++ (be k v).take (k - q)) ∧ Below w1.heap.size w1 wr) (fun _ i _ => (intOf i + 1).toNat)
      case atStart => exact ⟨k, Nat.le_refl _, rfl, by simpa using ho2, hb2⟩
      case round =>
        obtain ⟨q, hq, rfl, hown9, hb9⟩ := hrel
        have hz9 := hb9.size
        rcases q with _ | r
        · go_wp2
          go_ret
          refine ⟨_, rfl, ?_, bnext hb hb9⟩
          rw [Nat.sub_zero, List.take_of_length_le (by rw [be_length]; omega)] at hown9
          exact hown9.le hz
        · have er : (((r + 1 : Nat) : Int) - 1) = r := by omega
          rw [er]
          clear er
          have hatr := (hat7.below hb9)
          obtain ⟨b', o', he, hcr⟩ := hatr (by intro e; have := congrArg List.length e; rw [low_length] at this; simp at this; omega)
          simp at he
          obtain ⟨rfl, rfl⟩ := he
          have hcell := hcr r (by rw [low_length]; omega)
          rw [Nat.zero_add] at hcell
          clear hcr
          have hbk := be_back k v r (by omega)
          obtain ⟨x, hx⟩ : ∃ x, x = (low k v)[r]'(by rw [low_length]; omega) := ⟨_, rfl⟩
          rw [← hx] at hcell hbk
          have hbk := hid hbk
          clear hx
          go_wp2_with (at_builtin; refine wpList_app _ rfl (.tmp 33) (.tmp 38) rfl rfl w1.heap.size _ _ [x] rfl (hown9.alloc _) (some ⟨wr.heap.size, 0, none⟩) 1 1 rfl rfl (at_lit wr [x] _ (lit_one x)) (by simp [be_length]; omega) (by simp; omega) ?_; intro v3 w3 ho3 hb3)
          rw [List.append_assoc, ← hbk.out] at ho3
          exact ⟨⟨r, by omega, rfl, ho3, (hb9.alloc hz9 _).trans hb3⟩, by simp [intOf]⟩

end Go.Proofs.Ytcbgnodmamcmkaa
