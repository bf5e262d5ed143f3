/- OctetsTells's Go text returns true for any bytes, text, place and number, and turns nothing that was there; the bytes at most 2^47 - 4096. -/
import Derived.Test.YtdchmffkbiaeaaaRef2
namespace Go.Proofs.Ytdchmffkbiaeaaa
open Go.RowKit

/-- Text's answers in one. -/
def txB (l : List UInt8) (P : Int) : Bool := decide (0 ≤ P ∧ P + 2 ≤ l.length ∧ P + 2 + rdV l P 2 ≤ l.length)
def txS (l : List UInt8) (P : Int) : ByteArray := if txB l P = true then ⟨((l.drop (P.toNat + 2)).take (rdV l P 2).toNat).toArray⟩ else ByteArray.empty
def txE (l : List UInt8) (P : Int) : Int := if txB l P = true then P + 2 + rdV l P 2 else 0

theorem text_all (a : Option Addr) (cap len : Nat) (l : List UInt8) (P : Int) (w : World) (hl : l.length = len) (hlen : len ≤ 140737488355328) (hcap : len ≤ cap) (hat : At w a l) :
    Calls Try.prog 11 #[.slice a len cap, .int .i64 P] w fun e w' => e = .returned (.tuple #[.string (txS l P), .int .i64 (txE l P), .bool (txB l P)]) ∧ w' = w := by
  by_cases h : txB l P = true
  · have e1 : txS l P = _ := if_pos h
    have e2 : txE l P = _ := if_pos h
    rw [e1, e2, h]
    obtain ⟨h1, h2, h3⟩ := of_decide_eq_true h
    obtain ⟨p, rfl⟩ : ∃ p : Nat, P = p := ⟨P.toNat, by omega⟩
    have hb := rdV_bounds l p 2
    obtain ⟨V, hV⟩ : ∃ V : Nat, rdV l p 2 = V := ⟨(rdV l p 2).toNat, by omega⟩
    rw [hV] at h3 ⊢
    exact text_yes a cap len l p V w hl (by omega) hcap hat hV (by omega)
  · have e1 : txS l P = _ := if_neg h
    have e2 : txE l P = _ := if_neg h
    rw [e1, e2, Bool.eq_false_iff.2 h]
    exact text_no a cap len l P w hl (by omega) hat (by unfold txB at h; rw [hl, decide_eq_true_iff] at h; exact h)

theorem reftext_all (a : Option Addr) (cap len : Nat) (l : List UInt8) (P : Int) (w : World) (hl : l.length = len) (hlen : len ≤ 140737488355328) (hcap : len ≤ cap) (hat : At w a l) :
    Calls Try.prog 23 #[.slice a len cap, .int .i64 P] w fun e w' => e = .returned (.tuple #[.string (txS l P), .int .i64 (txE l P), .bool (txB l P)]) ∧ w' = w := by
  by_cases h : txB l P = true
  · have e1 : txS l P = _ := if_pos h
    have e2 : txE l P = _ := if_pos h
    rw [e1, e2, h]
    obtain ⟨h1, h2, h3⟩ := of_decide_eq_true h
    obtain ⟨p, rfl⟩ : ∃ p : Nat, P = p := ⟨P.toNat, by omega⟩
    have hb := rdV_bounds l p 2
    obtain ⟨V, hV⟩ : ∃ V : Nat, rdV l p 2 = V := ⟨(rdV l p 2).toNat, by omega⟩
    rw [hV] at h3 ⊢
    exact reftext_yes a cap len l p V w hl (by omega) hcap hat hV (by omega)
  · have e1 : txS l P = _ := if_neg h
    have e2 : txE l P = _ := if_neg h
    rw [e1, e2, Bool.eq_false_iff.2 h]
    exact reftext_no a cap len l P w hl (by omega) hat (by unfold txB at h; rw [hl, decide_eq_true_iff] at h; exact h)

/-- AddText's answers in one. -/
def atL (l : List UInt8) (s : ByteArray) : List UInt8 := if 65535 < s.size then [] else l ++ be 2 s.size ++ s.data.toList
def atE (s : ByteArray) : Int := if 65535 < s.size then 3 else 0

theorem addtext_all (a : Option Addr) (cap len : Nat) (l : List UInt8) (s : ByteArray) (w : World) (hl : l.length = len) (hlen : len ≤ 140737488355328) (hm : s.size ≤ 9223372036854775807) (hat : At w a l) :
    Calls Try.prog 12 #[.slice a len cap, .string s] w fun e w' => ∃ ad n c, e = .returned (.tuple #[.slice ad n c, .int .i64 (atE s)]) ∧ (atL l s).length = n ∧ At w' ad (atL l s) ∧ Below w.heap.size w w' := by
  by_cases h : 65535 < s.size
  · have e1 : atL l s = _ := if_pos h
    have e2 : atE s = _ := if_pos h
    rw [e1, e2]
    refine (addtext_no a cap len s w h hm).mono ?_
    rintro e w' ⟨rfl, rfl⟩
    exact ⟨none, 0, 0, rfl, rfl, at_nil _ _, Below.refl _ _⟩
  · have e1 : atL l s = _ := if_neg h
    have e2 : atE s = _ := if_neg h
    rw [e1, e2]
    refine (addtext_ex a cap len l s w hl (by omega) (by omega) hat).mono ?_
    rintro e w' ⟨g, rfl, hr, hb⟩
    exact ⟨_, _, _, rfl, by simp [be_length, hl], hr.at, hb⟩

theorem refaddtext_all (a : Option Addr) (cap len : Nat) (l : List UInt8) (s : ByteArray) (w : World) (hl : l.length = len) (hlen : len ≤ 140737488355328) (hm : s.size ≤ 9223372036854775807) (hat : At w a l) :
    Calls Try.prog 22 #[.slice a len cap, .string s] w fun e w' => ∃ ad n c, e = .returned (.tuple #[.slice ad n c, .int .i64 (atE s)]) ∧ (atL l s).length = n ∧ At w' ad (atL l s) ∧ Below w.heap.size w w' := by
  by_cases h : 65535 < s.size
  · have e1 : atL l s = _ := if_pos h
    have e2 : atE s = _ := if_pos h
    rw [e1, e2]
    refine (reftext_no_long a cap len s w h hm).mono ?_
    rintro e w' ⟨rfl, rfl⟩
    exact ⟨none, 0, 0, rfl, rfl, at_nil _ _, Below.refl _ _⟩
  · have e1 : atL l s = _ := if_neg h
    have e2 : atE s = _ := if_neg h
    rw [e1, e2]
    refine (refaddtext_any a cap len l s w hl (by omega) (by omega) hat).mono ?_
    rintro e w' ⟨g, c, rfl, hr, hb⟩
    exact ⟨_, _, _, rfl, by simp [be_length, hl], hr, hb⟩

theorem wrap_u16' (n : Int) : IntKind.u16.wrap n = n % 65536 := by simp [IntKind.wrap, IntKind.bits, IntKind.signed]

theorem add16_of (a : Option Addr) (cap len v : Nat) (x : Int) (l : List UInt8) (w : World) (hx : x = v) (hl : l.length = len) (hlen : len ≤ 140737488355328) (hv : v < 65536) (hat : At w a l) :
    Calls Try.prog 19 #[.slice a len cap, .int .u16 x] w fun e w' => ∃ g, e = .returned (.slice (some ⟨g, 0, none⟩) (len + 2) (len + 2)) ∧ Fresh w w' g (l ++ be 2 v) := by
  subst hx; exact add16_ex a cap len v l w hl hlen hv hat
theorem add8_of (a : Option Addr) (cap len v : Nat) (x : Int) (l : List UInt8) (w : World) (hx : x = v) (hl : l.length = len) (hlen : len ≤ 140737488355328) (hv : v < 256) (hat : At w a l) :
    Calls Try.prog 17 #[.slice a len cap, .int .u8 x] w fun e w' => ∃ g, e = .returned (.slice (some ⟨g, 0, none⟩) (len + 1) (len + 1)) ∧ Fresh w w' g (l ++ be 1 v) := by
  subst hx; exact add8_ex a cap len v l w hl hlen hv hat
theorem add32_of (a : Option Addr) (cap len v : Nat) (x : Int) (l : List UInt8) (w : World) (hx : x = v) (hl : l.length = len) (hlen : len ≤ 140737488355328) (hv : v < 4294967296) (hat : At w a l) :
    Calls Try.prog 20 #[.slice a len cap, .int .u32 x] w fun e w' => ∃ g, e = .returned (.slice (some ⟨g, 0, none⟩) (len + 4) (len + 4)) ∧ Fresh w w' g (l ++ be 4 v) := by
  subst hx; exact add32_ex a cap len v l w hl hlen hv hat
/-- Add of the document, its answer's form written out. -/
theorem refadd_of (a : Option Addr) (cap len n v : Nat) (x : Int) (l : List UInt8) (w : World) (hx : x = v) (hl : l.length = len) (hlen : len ≤ 140737488355328) (hn : n ≤ 8) (hn0 : 0 < n) (hv : v < 18446744073709551616) (hat : At w a l) :
    Calls Try.prog 18 #[.slice a len cap, .int .u64 x, .int .i64 n] w fun e w' => ∃ ad c, e = .returned (.slice ad (len + n) c) ∧ At w' ad (l ++ be n v) ∧ Below w.heap.size w w' := by
  subst hx
  refine (refadd_any a cap len n v l w hl hlen hn hn0 hv hat).mono ?_
  rintro e w' ⟨r, rfl, ho, hb⟩
  obtain ⟨ad, c, rfl, _, h⟩ := ho.form
  exact ⟨ad, c, by rw [List.length_append, be_length, hl], h, hb⟩

set_option maxRecDepth 100000 in
set_option maxHeartbeats 2000000 in
theorem tells_any (a : Option Addr) (len cap : Nat) (l : List UInt8) (s : ByteArray) (P : Int) (v : Nat) (w : World) (hl : l.length = len) (hlen : len ≤ 140737488351232) (hcap : len ≤ cap) (hat : At w a l) (hm : s.size ≤ 9223372036854775807) (hv : v < 18446744073709551616) :
    Calls Try.prog 4 #[.slice a len cap, .string s, .int .i64 P, .int .u64 v] w fun e w' => e = .returned (.bool true) ∧ Below w.heap.size w w' := by
  have b1 := rdV_bounds l P 1
  have b2 := rdV_bounds l P 2
  have b4 := rdV_bounds l P 4
  have b8 := rdV_bounds l P 8
  obtain ⟨x1, h1⟩ : ∃ x, rdV l P 1 = x := ⟨_, rfl⟩
  obtain ⟨x2, h2⟩ : ∃ x, rdV l P 2 = x := ⟨_, rfl⟩
  obtain ⟨x4, h4⟩ : ∃ x, rdV l P 4 = x := ⟨_, rfl⟩
  obtain ⟨x8, h8⟩ : ∃ x, rdV l P 8 = x := ⟨_, rfl⟩
  rw [h1] at b1
  rw [h2] at b2
  rw [h4] at b4
  rw [h8] at b8
  replace b1 : 0 ≤ x1 ∧ x1 < 256 := ⟨b1.1, by omega⟩
  replace b2 : 0 ≤ x2 ∧ x2 < 65536 := ⟨b2.1, by omega⟩
  replace b4 : 0 ≤ x4 ∧ x4 < 4294967296 := ⟨b4.1, by omega⟩
  replace b8 : 0 ≤ x8 ∧ x8 < 18446744073709551616 := ⟨b8.1, by omega⟩
  obtain ⟨b1, c1⟩ := b1
  obtain ⟨b2, c2⟩ := b2
  obtain ⟨b4, c4⟩ := b4
  obtain ⟨b8, c8⟩ := b8
  replace h1 := hid h1
  replace h2 := hid h2
  replace h4 := hid h4
  replace h8 := hid h8
  go_enter Try.func4, Try.ntmps4
  go_wp2_with fail
  refine (lent_any a cap len l _ hl (by omega) hat).mono ?_
  rintro e w1 ⟨g, c, rfl, hc, hk, hb⟩
  have hin := hk.head
  have ha := hat.below hb
  go_wp2_with fail
  refine (u8_any _ c len l P _ hl (by omega) hin).mono ?_
  rintro e w2 ⟨rfl, rfl⟩
  rw [h1.out]
  go_wp2_with fail
  refine (u16_any _ c len l P _ hl (by omega) hin).mono ?_
  rintro e w3 ⟨rfl, rfl⟩
  rw [h2.out]
  go_wp2_with fail
  refine (u32_any _ c len l P _ hl (by omega) hin).mono ?_
  rintro e w4 ⟨rfl, rfl⟩
  rw [h4.out]
  go_wp2_with fail
  refine (u64_any _ c len l P _ hl (by omega) hin).mono ?_
  rintro e w5 ⟨rfl, rfl⟩
  rw [h8.out]
  go_wp2_with fail
  refine (refnum_any _ cap len l P 1 _ hl (by omega) (by omega) (by omega) ha).mono ?_
  rintro e w6 ⟨rfl, rfl⟩
  rw [h1.out]
  go_wp2_with fail
  refine (refnum_any _ cap len l P 2 _ hl (by omega) (by omega) (by omega) ha).mono ?_
  rintro e w7 ⟨rfl, rfl⟩
  rw [h2.out]
  go_wp2_with fail
  refine (refnum_any _ cap len l P 4 _ hl (by omega) (by omega) (by omega) ha).mono ?_
  rintro e w8 ⟨rfl, rfl⟩
  rw [h4.out]
  go_wp2_with fail
  refine (refnum_any _ cap len l P 8 _ hl (by omega) (by omega) (by omega) ha).mono ?_
  rintro e w9 ⟨rfl, rfl⟩
  rw [h8.out]
  clear h1 h2 h4 h8
  go_wp2_with fail
  refine (add8_of _ c len (v % 256) _ l _ (by omega) hl (by omega) (by omega) hin).mono ?_
  rintro e w10 ⟨g10, rfl, hr10, hb10⟩
  replace ha := ha.below hb10
  replace hk := hk.below hb10
  replace hb := bnext hb hb10
  clear hin
  go_wp2_with fail
  refine (refadd_of _ cap len 1 (v % 256) _ l _ (by omega) hl (by omega) (by omega) (by omega) (by omega) ha).mono ?_
  rintro e w11 ⟨ad11, c11, rfl, hr11, hb11⟩
  replace ha := ha.below hb11
  replace hk := hk.below hb11
  replace hb := bnext hb hb11
  go_wp2_with fail
  refine (same_any _ _ (len + 1) (len + 1) _ _ _ _ _ (by simp [be_length, hl]) (by simp [be_length, hl]) (hr10.at.below hb11) hr11 rfl).mono ?_
  rintro e w12 ⟨rfl, rfl⟩
  clear hr10 hr11 hb10 hb11
  go_wp2_with fail
  have hin := hk.head
  refine (add16_of _ c len (v % 65536) _ l _ (by rw [wrap_u16']; omega) hl (by omega) (by omega) hin).mono ?_
  rintro e w13 ⟨g13, rfl, hr13, hb13⟩
  replace ha := ha.below hb13
  replace hk := hk.below hb13
  replace hb := bnext hb hb13
  clear hin
  go_wp2_with fail
  refine (refadd_of _ cap len 2 (v % 65536) _ l _ (by omega) hl (by omega) (by omega) (by omega) (by omega) ha).mono ?_
  rintro e w14 ⟨ad14, c14, rfl, hr14, hb14⟩
  replace ha := ha.below hb14
  replace hk := hk.below hb14
  replace hb := bnext hb hb14
  go_wp2_with fail
  refine (same_any _ _ (len + 2) (len + 2) _ _ _ _ _ (by simp [be_length, hl]) (by simp [be_length, hl]) (hr13.at.below hb14) hr14 rfl).mono ?_
  rintro e w15 ⟨rfl, rfl⟩
  clear hr13 hr14 hb13 hb14
  go_wp2_with fail
  have hin := hk.head
  refine (add32_of _ c len (v % 4294967296) _ l _ (by omega) hl (by omega) (by omega) hin).mono ?_
  rintro e w16 ⟨g16, rfl, hr16, hb16⟩
  replace ha := ha.below hb16
  replace hk := hk.below hb16
  replace hb := bnext hb hb16
  clear hin
  go_wp2_with fail
  refine (refadd_of _ cap len 4 (v % 4294967296) _ l _ (by omega) hl (by omega) (by omega) (by omega) (by omega) ha).mono ?_
  rintro e w17 ⟨ad17, c17, rfl, hr17, hb17⟩
  replace ha := ha.below hb17
  replace hk := hk.below hb17
  replace hb := bnext hb hb17
  go_wp2_with fail
  refine (same_any _ _ (len + 4) (len + 4) _ _ _ _ _ (by simp [be_length, hl]) (by simp [be_length, hl]) (hr16.at.below hb17) hr17 rfl).mono ?_
  rintro e w18 ⟨rfl, rfl⟩
  clear hr16 hr17 hb16 hb17
  go_wp2_with fail
  have hin := hk.head
  refine (add64_ex _ c len v l _ hl (by omega) (by omega) hin).mono ?_
  rintro e w19 ⟨g19, rfl, hr19, hb19⟩
  replace ha := ha.below hb19
  replace hk := hk.below hb19
  replace hb := bnext hb hb19
  clear hin
  go_wp2_with fail
  refine (refadd_of _ cap len 8 v _ l _ rfl hl (by omega) (by omega) (by omega) (by omega) ha).mono ?_
  rintro e w20 ⟨ad20, c20, rfl, hr20, hb20⟩
  replace ha := ha.below hb20
  replace hk := hk.below hb20
  replace hb := bnext hb hb20
  go_wp2_with fail
  refine (same_any _ _ (len + 8) (len + 8) _ _ _ _ _ (by simp [be_length, hl]) (by simp [be_length, hl]) (hr19.at.below hb20) hr20 rfl).mono ?_
  rintro e w21 ⟨rfl, rfl⟩
  clear hr19 hr20 hb19 hb20
  go_wp2_with fail
  have hin := hk.head
  refine (addtext_all _ c len l s _ hl (by omega) hm hin).mono ?_
  rintro e w22 ⟨ad22, n22, c22, rfl, hn22, hr22, hb22⟩
  replace ha := ha.below hb22
  replace hk := hk.below hb22
  replace hb := bnext hb hb22
  clear hin
  replace hn22 := hid hn22
  go_wp2_with fail
  refine (refaddtext_all _ cap len l s _ hl (by omega) hm ha).mono ?_
  rintro e w23 ⟨ad23, n23, c23, rfl, hn23, hr23, hb23⟩
  replace ha := ha.below hb23
  replace hk := hk.below hb23
  replace hb := bnext hb hb23
  replace hr22 := hr22.below hb23
  replace hn23 := hid hn23
  have hin := hk.head
  clear hb22 hb23
  go_wp2_with fail
  refine (text_all _ c len l P _ hl (by omega) (by omega) hin).mono ?_
  rintro e w24 ⟨rfl, rfl⟩
  go_wp2_with fail
  refine (reftext_all _ cap len l P _ hl (by omega) hcap ha).mono ?_
  rintro e w25 ⟨rfl, rfl⟩
  go_wp2_with fail
  refine (same_any _ _ n22 n23 _ _ _ _ _ hn22.out hn23.out hr22 hr23 rfl).mono ?_
  rintro e w26 ⟨rfl, rfl⟩
  go_wp2_with fail
  refine (kept_any g c cap len a l _ hl (by omega) hc hk ha).mono ?_
  rintro e w27 ⟨rfl, rfl⟩
  go_wp2_with (go_at_call 13; refine (awake_any _).mono ?_; rintro e w28 ⟨rfl, hb28⟩)
  go_ret
  exact ⟨rfl, bnext hb hb28⟩
end Go.Proofs.Ytdchmffkbiaeaaa
