/- What the document calls one record: its bytes are those of an entry. -/
import Derived.Test.YtcbgnodmamcmkaaRef3
import Derived.Test.YtcbgnodmamcmkaaLog
namespace Go.Proofs.Ytcbgnodmamcmkaa
open Go.RowKit

theorem be_take (l : List UInt8) (p n : Nat) (h : p + n ≤ l.length) : be n (numOf ((l.drop p).take n)) = (l.drop p).take n := by
  have hl : ((l.drop p).take n).length = n := by rw [List.length_take, List.length_drop]; omega
  have := be_numOf ((l.drop p).take n)
  rw [hl] at this
  exact this

theorem take_split (l : List UInt8) (p a b : Nat) : (l.drop p).take (a + b) = (l.drop p).take a ++ (l.drop (p + a)).take b := by
  rw [List.take_add, List.drop_drop]

theorem kind_be (l : List UInt8) (p : Nat) (h : p + 13 ≤ l.length) : be 1 (kindAt l p).toNat = (l.drop (p + 12)).take 1 := by
  have h1 := be_take l (p + 12) 1 (by omega)
  have h2 : numOf ((l.drop (p + 12)).take 1) < 256 := by
    have := numOf_lt ((l.drop (p + 12)).take 1)
    have hl : ((l.drop (p + 12)).take 1).length = 1 := by rw [List.length_take, List.length_drop]; omega
    rw [hl] at this; simpa using this
  rw [← h1]
  unfold kindAt
  rw [UInt8.toNat_ofNat']
  rw [h1]
  rw [show numOf ((l.drop (p + 12)).take 1) % 2 ^ 8 = numOf ((l.drop (p + 12)).take 1) from Nat.mod_eq_of_lt (by simpa using h2)]
  exact h1

theorem summed_at (l : List UInt8) (p : Nat) (h9 : 9 ≤ sizeAt l p) (h8 : p + 8 + sizeAt l p ≤ l.length) : summed (numAt l p) (kindAt l p) (bodyAt l p) = (l.drop (p + 4)).take (sizeAt l p) := by
  unfold summed
  rw [kind_be l p (by omega)]
  unfold numAt bodyAt
  rw [be_take l (p + 4) 8 (by omega)]
  conv => rhs; rw [show sizeAt l p = 8 + (1 + (sizeAt l p - 9)) by omega, take_split, take_split]
  rw [show p + 4 + 8 = p + 12 by omega, show p + 12 + 1 = p + 13 by omega, List.append_assoc]

theorem body_len (l : List UInt8) (p : Nat) (h9 : 9 ≤ sizeAt l p) (h8 : p + 8 + sizeAt l p ≤ l.length) : (bodyAt l p).length = sizeAt l p - 9 := by
  unfold bodyAt; rw [List.length_take, List.length_drop]; omega

/-- An entry stands at the begin if and only if its bytes do. -/
theorem ent_bytes {l : List UInt8} {mb : Nat} (h : HeadOk l mb) (hmb : mb ≤ 10000000) : EntAt l 0 mb ↔ entB (numAt l 0) (kindAt l 0) (bodyAt l 0) = l.take (sizeAt l 0 + 8) := by
  obtain ⟨h4, h9, hm, h8, hN⟩ := h
  have hb := body_len l 0 h9 (by omega)
  constructor
  · intro he
    unfold entB
    rw [summed_at l 0 h9 (by omega), hb, show 9 + (sizeAt l 0 - 9) = sizeAt l 0 by omega]
    rw [← he.crc, be_take l (0 + 4 + sizeAt l 0) 4 (by omega)]
    have e1 : be 4 (sizeAt l 0) = (l.drop 0).take 4 := be_take l 0 4 (by omega)
    rw [e1]
    have := take_split l 0 4 (sizeAt l 0 + 4)
    rw [take_split l (0 + 4) (sizeAt l 0) 4] at this
    rw [List.append_assoc, ← this, List.drop_zero, show 4 + (sizeAt l 0 + 4) = sizeAt l 0 + 8 by omega]
  · intro he
    have hH : Holds l 0 (numAt l 0) (kindAt l 0) (bodyAt l 0) := ⟨[], l.drop (sizeAt l 0 + 8), by rw [he]; simp, rfl⟩
    exact hH.ent mb (by omega) (by omega) hN

theorem head_of_ent {l : List UInt8} {mb : Nat} (h : EntAt l 0 mb) : HeadOk l mb := ⟨by have := h.four; omega, h.nine, h.most, by have := h.sum4; omega, h.num⟩

section
variable (l : List UInt8) (p : Nat)
theorem size_drop : sizeAt (l.drop p) 0 = sizeAt l p := by unfold sizeAt; rw [List.drop_drop, Nat.add_zero]
theorem num_drop : numAt (l.drop p) 0 = numAt l p := by unfold numAt; rw [List.drop_drop, show p + (0 + 4) = p + 4 by omega]
theorem kind_drop : kindAt (l.drop p) 0 = kindAt l p := by unfold kindAt; rw [List.drop_drop, show p + (0 + 12) = p + 12 by omega]
theorem body_drop : bodyAt (l.drop p) 0 = bodyAt l p := by unfold bodyAt; rw [size_drop, List.drop_drop, show p + (0 + 13) = p + 13 by omega]
theorem ent_drop (mb : Nat) (hp : p ≤ l.length) : EntAt (l.drop p) 0 mb ↔ EntAt l p mb := by
  have e1 : ∀ k, (l.drop p).drop k = l.drop (p + k) := fun k => by rw [List.drop_drop]
  constructor
  · intro h
    refine ⟨?_, ?_, ?_, ?_, ?_, ?_⟩
    · have := h.four; rw [List.length_drop] at this; omega
    · have := h.nine; rw [size_drop] at this; exact this
    · have := h.most; rw [size_drop] at this; exact this
    · have := h.sum4; rw [size_drop, List.length_drop] at this; omega
    · have := h.crc
      rw [size_drop, e1, e1, show p + (0 + 4 + sizeAt l p) = p + 4 + sizeAt l p by omega, show p + (0 + 4) = p + 4 by omega] at this
      exact this
    · have := h.num; rw [num_drop] at this; exact this
  · intro h
    refine ⟨?_, ?_, ?_, ?_, ?_, ?_⟩
    · have := h.four; rw [List.length_drop]; omega
    · rw [size_drop]; exact h.nine
    · rw [size_drop]; exact h.most
    · have := h.sum4; rw [size_drop, List.length_drop]; omega
    · rw [size_drop, e1, e1, show p + (0 + 4 + sizeAt l p) = p + 4 + sizeAt l p by omega, show p + (0 + 4) = p + 4 by omega]
      exact h.crc
    · rw [num_drop]; exact h.num
end

theorem same_dec (a1 a2 : Option Addr) (n1 n2 c1 c2 : Nat) (l1 l2 : List UInt8) (w : World) (h1 : l1.length = n1) (h2 : l2.length = n2) (at1 : At w a1 l1) (at2 : At w a2 l2) :
    Calls Try.prog 10 #[.slice a1 n1 c1, .slice a2 n2 c2] w fun e w' => e = .returned (.bool (decide (l1 = l2))) ∧ w' = w := by
  have k1 := conv_run w a1 l1 n1 c1 h1 at1
  have k2 := conv_run w a2 l2 n2 c2 h2 at2
  go_enter Try.func10, Try.ntmps10
  go_wp2
  go_ret
  exact ⟨ret_bool (by rw [Bool.eq_iff_iff]; simp), rfl⟩

end Go.Proofs.Ytcbgnodmamcmkaa
