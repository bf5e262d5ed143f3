/- What the closures that take numbers and texts answer, and takerOf. -/
import Derived.Test.YtkkdiciadkcmmaaTaker
namespace Go.Proofs.Ytkkdiciadkcmmaa
open Go.RowKit

theorem rd_yes (l : List UInt8) (n : Nat) (s : St) (h : s.1 + n ≤ l.length) : rdB l (s.1 : Int) n = true ∧ rdV l (s.1 : Int) n = ((tkN l n s).1 : Int) ∧ (tkN l n s).2 = (s.1 + n, s.2) := by
  refine ⟨by unfold rdB; exact decide_eq_true (by omega), ?_, by unfold tkN; rw [if_pos h]⟩
  unfold rdV tkN
  rw [if_pos (by omega), if_pos h]
  simp

theorem rd_no (l : List UInt8) (n : Nat) (s : St) (h : ¬ s.1 + n ≤ l.length) : rdB l (s.1 : Int) n = false ∧ rdV l (s.1 : Int) n = 0 ∧ tkN l n s = (0, (l.length, true)) := by
  refine ⟨by unfold rdB; exact decide_eq_false (by omega), ?_, by unfold tkN; rw [if_neg h]⟩
  unfold rdV
  rw [if_neg (by omega)]

theorem small_any {w0 : World} (a : Option Addr) (len cap gb ga gw gn : Nat) (l : List UInt8) (s : St) (w : World) (hl : l.length = len) (hlen : len ≤ 100000) (hat : At w0 a l) (h : Tk w0 w a len cap gb ga gw gn s) :
    Calls Try.prog 49 #[.pointer (some ⟨gb, 0, none⟩), .pointer (some ⟨ga, 0, none⟩), .pointer (some ⟨gn, 0, none⟩)] w fun e w' => e = .returned (.int .u8 ((tkN l 1 s).1 : Int)) ∧ Tk w0 w' a len cap gb ga gw gn (tkN l 1 s).2 ∧ Kp (Two ga gw) w w' := by
  have h1 := h.cb
  have h2 := h.cp
  have h3 := h.cn
  have hle := h.le
  by_cases hk : s.1 + 1 ≤ l.length
  · obtain ⟨e1, e2, e3⟩ := rd_yes l 1 s hk
    rw [e3]
    go_enter Try.func49, Try.ntmps49
    go_wp2_with fail
    refine (u8_any a cap len l _ _ hl (by omega) (h.at hat)).mono ?_
    rintro e w' ⟨rfl, rfl⟩
    rw [e1, e2]
    go_wp2_with fail
    refine (note_yes a len cap gb ga gw gn s _ (s.1 + 1) _ h (by omega) (by omega)).mono ?_
    rintro e w' ⟨rfl, ht, hkp⟩
    go_wp2
    go_ret
    exact ⟨rfl, ht, hkp⟩
  · obtain ⟨e1, e2, e3⟩ := rd_no l 1 s hk
    rw [e3, hl]
    go_enter Try.func49, Try.ntmps49
    go_wp2_with fail
    refine (u8_any a cap len l _ _ hl (by omega) (h.at hat)).mono ?_
    rintro e w' ⟨rfl, rfl⟩
    rw [e1, e2]
    go_wp2_with fail
    refine (note_no a len cap gb ga gw gn s _ _ h).mono ?_
    rintro e w' ⟨rfl, ht, hkp⟩
    go_wp2
    go_ret
    exact ⟨rfl, ht, hkp⟩

theorem length_any {w0 : World} (a : Option Addr) (len cap gb ga gw gn : Nat) (l : List UInt8) (s : St) (w : World) (hl : l.length = len) (hlen : len ≤ 100000) (hat : At w0 a l) (h : Tk w0 w a len cap gb ga gw gn s) :
    Calls Try.prog 51 #[.pointer (some ⟨gb, 0, none⟩), .pointer (some ⟨ga, 0, none⟩), .pointer (some ⟨gn, 0, none⟩)] w fun e w' => e = .returned (.int .i64 ((tkN l 2 s).1 : Int)) ∧ Tk w0 w' a len cap gb ga gw gn (tkN l 2 s).2 ∧ Kp (Two ga gw) w w' := by
  have h1 := h.cb
  have h2 := h.cp
  have h3 := h.cn
  have hle := h.le
  have hlt := tkN_lt l 2 s
  by_cases hk : s.1 + 2 ≤ l.length
  · obtain ⟨e1, e2, e3⟩ := rd_yes l 2 s hk
    rw [e3]
    go_enter Try.func51, Try.ntmps51
    go_wp2_with fail
    refine (u16_any a cap len l _ _ hl (by omega) (h.at hat)).mono ?_
    rintro e w' ⟨rfl, rfl⟩
    rw [e1, e2]
    go_wp2_with fail
    refine (note_yes a len cap gb ga gw gn s _ (s.1 + 2) _ h (by omega) (by omega)).mono ?_
    rintro e w' ⟨rfl, ht, hkp⟩
    go_wp2
    go_ret
    exact ⟨ret_int (by omega), ht, hkp⟩
  · obtain ⟨e1, e2, e3⟩ := rd_no l 2 s hk
    rw [e3, hl]
    go_enter Try.func51, Try.ntmps51
    go_wp2_with fail
    refine (u16_any a cap len l _ _ hl (by omega) (h.at hat)).mono ?_
    rintro e w' ⟨rfl, rfl⟩
    rw [e1, e2]
    go_wp2_with fail
    refine (note_no a len cap gb ga gw gn s _ _ h).mono ?_
    rintro e w' ⟨rfl, ht, hkp⟩
    go_wp2
    go_ret
    exact ⟨rfl, ht, hkp⟩

theorem i64_wrap (v : Nat) (h : v < 18446744073709551616) : IntKind.i64.wrap (v : Int) = i64 v := by
  rw [IntKind.wrap_i64]; unfold i64; split <;> omega

theorem num_any {w0 : World} (a : Option Addr) (len cap gb ga gw gn : Nat) (l : List UInt8) (s : St) (w : World) (hl : l.length = len) (hlen : len ≤ 100000) (hat : At w0 a l) (h : Tk w0 w a len cap gb ga gw gn s) :
    Calls Try.prog 53 #[.pointer (some ⟨gb, 0, none⟩), .pointer (some ⟨ga, 0, none⟩), .pointer (some ⟨gn, 0, none⟩)] w fun e w' => e = .returned (.int .i64 (tkI l s).1) ∧ Tk w0 w' a len cap gb ga gw gn (tkI l s).2 ∧ Kp (Two ga gw) w w' := by
  have h1 := h.cb
  have h2 := h.cp
  have h3 := h.cn
  have hle := h.le
  have hw := i64_wrap (tkN l 8 s).1 (Nat.lt_of_lt_of_le (tkN_lt l 8 s) (by decide))
  unfold tkI
  by_cases hk : s.1 + 8 ≤ l.length
  · obtain ⟨e1, e2, e3⟩ := rd_yes l 8 s hk
    rw [e3]
    go_enter Try.func53, Try.ntmps53
    go_wp2_with fail
    refine (u64_any a cap len l _ _ hl (by omega) (h.at hat)).mono ?_
    rintro e w' ⟨rfl, rfl⟩
    rw [e1, e2]
    go_wp2_with fail
    refine (note_yes a len cap gb ga gw gn s _ (s.1 + 8) _ h (by omega) (by omega)).mono ?_
    rintro e w' ⟨rfl, ht, hkp⟩
    go_wp2
    go_ret
    exact ⟨rfl, ht, hkp⟩
  · obtain ⟨e1, e2, e3⟩ := rd_no l 8 s hk
    rw [e3, hl]
    go_enter Try.func53, Try.ntmps53
    go_wp2_with fail
    refine (u64_any a cap len l _ _ hl (by omega) (h.at hat)).mono ?_
    rintro e w' ⟨rfl, rfl⟩
    rw [e1, e2]
    go_wp2_with fail
    refine (note_no a len cap gb ga gw gn s _ _ h).mono ?_
    rintro e w' ⟨rfl, ht, hkp⟩
    go_wp2
    go_ret
    exact ⟨rfl, ht, hkp⟩

theorem tkT_yes (l : List UInt8) (s : St) (h1 : s.1 + 2 ≤ l.length) (h2 : s.1 + 2 + (tkN l 2 s).1 ≤ l.length) : tkT l s = (⟨((l.drop (s.1 + 2)).take (tkN l 2 s).1).toArray⟩, (s.1 + 2 + (tkN l 2 s).1, s.2)) := by
  have e : (tkN l 2 s).1 = numOf ((l.drop s.1).take 2) := by unfold tkN; rw [if_pos h1]
  rw [e] at h2 ⊢
  unfold tkT
  rw [if_pos ⟨h1, h2⟩]

theorem tkT_no (l : List UInt8) (s : St) (h : ¬ (s.1 + 2 ≤ l.length ∧ s.1 + 2 + (tkN l 2 s).1 ≤ l.length)) : tkT l s = (ByteArray.empty, (l.length, true)) := by
  unfold tkT
  rw [if_neg]
  rintro ⟨h1, h2⟩
  apply h
  have e : (tkN l 2 s).1 = numOf ((l.drop s.1).take 2) := by unfold tkN; rw [if_pos h1]
  rw [e]
  exact ⟨h1, h2⟩

theorem txt_any {w0 : World} (a : Option Addr) (len cap gb ga gw gn : Nat) (l : List UInt8) (s : St) (w : World) (hl : l.length = len) (hlen : len ≤ 100000) (hcap : len ≤ cap) (hat : At w0 a l) (h : Tk w0 w a len cap gb ga gw gn s) :
    Calls Try.prog 55 #[.pointer (some ⟨gb, 0, none⟩), .pointer (some ⟨ga, 0, none⟩), .pointer (some ⟨gn, 0, none⟩)] w fun e w' => e = .returned (.string (tkT l s).1) ∧ Tk w0 w' a len cap gb ga gw gn (tkT l s).2 ∧ Kp (Two ga gw) w w' := by
  have h1 := h.cb
  have h2 := h.cp
  have h3 := h.cn
  have hle := h.le
  by_cases hk : s.1 + 2 ≤ l.length ∧ s.1 + 2 + (tkN l 2 s).1 ≤ l.length
  · rw [tkT_yes l s hk.1 hk.2]
    obtain ⟨_, e2, _⟩ := rd_yes l 2 s hk.1
    obtain ⟨V, hV⟩ : ∃ V, V = (tkN l 2 s).1 := ⟨_, rfl⟩
    rw [← hV] at hk e2 ⊢
    obtain ⟨k1, k2⟩ := hk
    rw [hl] at k1 k2
    have hat' := h.at hat
    replace hV := hid hV
    replace hl := hid hl
    replace e2 := hid e2
    go_enter Try.func55, Try.ntmps55
    go_wp2_with fail
    refine (text_yes a cap len l s.1 V _ hl.out (by omega) hcap hat' e2.out k2).mono ?_
    rintro e w' ⟨rfl, rfl⟩
    go_wp2_with fail
    refine (note_yes a len cap gb ga gw gn s _ (s.1 + 2 + V) _ h (by omega) (by omega)).mono ?_
    rintro e w' ⟨rfl, ht, hkp⟩
    go_wp2
    go_ret
    exact ⟨rfl, ht, hkp⟩
  · rw [tkT_no l s hk, hl]
    have hk' : ¬ (0 ≤ (s.1 : Int) ∧ (s.1 : Int) + 2 ≤ len ∧ (s.1 : Int) + 2 + rdV l s.1 2 ≤ len) := by
      rintro ⟨_, k1, k2⟩
      have k3 : s.1 + 2 ≤ l.length := by omega
      rw [(rd_yes l 2 s k3).2.1] at k2
      exact hk ⟨k3, by omega⟩
    have hat' := h.at hat
    replace hk := hid hk
    replace hl := hid hl
    replace hk' := hid hk'
    go_enter Try.func55, Try.ntmps55
    go_wp2_with fail
    refine (text_no a cap len l s.1 _ hl.out (by omega) hat' hk'.out).mono ?_
    rintro e w' ⟨rfl, rfl⟩
    go_wp2_with fail
    refine (note_no a len cap gb ga gw gn s _ _ h).mono ?_
    rintro e w' ⟨rfl, ht, hkp⟩
    go_wp2
    go_ret
    exact ⟨rfl, ht, hkp⟩

theorem whole_any {w0 : World} (a : Option Addr) (len cap gb ga gw gn : Nat) (s : St) (w : World) (h : Tk w0 w a len cap gb ga gw gn s) :
    Calls Try.prog 57 #[.pointer (some ⟨gw, 0, none⟩)] w fun e w' => e = .returned (.bool (!s.2)) ∧ w' = w := by
  have h1 := h.cr
  go_enter Try.func57, Try.ntmps57
  go_wp2
  go_ret
  exact ⟨rfl, rfl⟩

theorem ended_any {w0 : World} (a : Option Addr) (len cap gb ga gw gn : Nat) (s : St) (w : World) (h : Tk w0 w a len cap gb ga gw gn s) :
    Calls Try.prog 58 #[.pointer (some ⟨gw, 0, none⟩), .pointer (some ⟨ga, 0, none⟩), .pointer (some ⟨gb, 0, none⟩)] w fun e w' => e = .returned (.bool (!s.2 && s.1 == len)) ∧ w' = w := by
  have h1 := h.cr
  have h2 := h.cp
  have h3 := h.cb
  obtain ⟨p, q⟩ := s
  cases q with
  | true =>
    go_enter Try.func58, Try.ntmps58
    go_wp2
    go_ret
    exact ⟨rfl, rfl⟩
  | false =>
    go_enter Try.func58, Try.ntmps58
    go_wp2
    go_ret
    refine ⟨ret_bool ?_, rfl⟩
    rw [Bool.eq_iff_iff]
    simp
    omega

/-- The closures, as a value. -/
def tkVal (gb ga gw gn : Nat) : Value := .agg #[.func (.func 49) #[] #[.pointer (some ⟨gb, 0, none⟩), .pointer (some ⟨ga, 0, none⟩), .pointer (some ⟨gn, 0, none⟩)],
  .func (.func 51) #[] #[.pointer (some ⟨gb, 0, none⟩), .pointer (some ⟨ga, 0, none⟩), .pointer (some ⟨gn, 0, none⟩)],
  .func (.func 53) #[] #[.pointer (some ⟨gb, 0, none⟩), .pointer (some ⟨ga, 0, none⟩), .pointer (some ⟨gn, 0, none⟩)],
  .func (.func 55) #[] #[.pointer (some ⟨gb, 0, none⟩), .pointer (some ⟨ga, 0, none⟩), .pointer (some ⟨gn, 0, none⟩)],
  .func (.func 57) #[] #[.pointer (some ⟨gw, 0, none⟩)],
  .func (.func 58) #[] #[.pointer (some ⟨gw, 0, none⟩), .pointer (some ⟨ga, 0, none⟩), .pointer (some ⟨gb, 0, none⟩)]]

end Go.Proofs.Ytkkdiciadkcmmaa
