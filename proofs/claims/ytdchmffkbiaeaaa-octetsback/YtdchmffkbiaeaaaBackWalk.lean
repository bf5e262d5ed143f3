/- OctetsBack's Go text returns true for any bytes, texts and number, and turns nothing that was there; the bytes at most 2^47. -/
import Derived.Test.YtdchmffkbiaeaaaAwake
namespace Go.Proofs.Ytdchmffkbiaeaaa
open Go.RowKit

theorem rd_mid (L a m z : List UInt8) (P : Int) (k : Nat) (hL : L = a ++ (m ++ z)) (hP : P = a.length) (hk : m.length = k) : rdV L P k = numOf m ∧ rdB L P k = true := by
  subst hL hP hk
  unfold rdV rdB
  have h : (0 : Int) ≤ (a.length : Int) ∧ (a.length : Int) + m.length ≤ (a ++ (m ++ z)).length := by simp; omega
  rw [if_pos h, decide_eq_true h]
  simp

theorem rd_be (L a z : List UInt8) (P : Int) (k v : Nat) (hL : L = a ++ (be k v ++ z)) (hP : P = a.length) (hv : v < 256 ^ k) : rdV L P k = (v : Int) ∧ rdB L P k = true := by
  have h := rd_mid L a (be k v) z P k hL hP (be_length k v)
  rwa [numOf_be, Nat.mod_eq_of_lt hv] at h

theorem wrap_u16 (n : Int) : IntKind.u16.wrap n = n % 65536 := by simp [IntKind.wrap, IntKind.bits, IntKind.signed]

theorem add8_int (a : Option Addr) (cap len v : Nat) (x : Int) (l : List UInt8) (w : World) (hx : x = v) (hl : l.length = len) (hlen : len ≤ 140737488355328) (hv : v < 256) (hat : At w a l) :
    Calls Try.prog 17 #[.slice a len cap, .int .u8 x] w fun e w' => ∃ g, e = .returned (.slice (some ⟨g, 0, none⟩) (len + 1) (len + 1)) ∧ Fresh w w' g (l ++ be 1 v) := by
  subst hx; exact add8_ex a cap len v l w hl hlen hv hat
theorem add16_int (a : Option Addr) (cap len v : Nat) (x : Int) (l : List UInt8) (w : World) (hx : x = v) (hl : l.length = len) (hlen : len ≤ 140737488355328) (hv : v < 65536) (hat : At w a l) :
    Calls Try.prog 19 #[.slice a len cap, .int .u16 x] w fun e w' => ∃ g, e = .returned (.slice (some ⟨g, 0, none⟩) (len + 2) (len + 2)) ∧ Fresh w w' g (l ++ be 2 v) := by
  subst hx; exact add16_ex a cap len v l w hl hlen hv hat
theorem add32_int (a : Option Addr) (cap len v : Nat) (x : Int) (l : List UInt8) (w : World) (hx : x = v) (hl : l.length = len) (hlen : len ≤ 140737488355328) (hv : v < 4294967296) (hat : At w a l) :
    Calls Try.prog 20 #[.slice a len cap, .int .u32 x] w fun e w' => ∃ g, e = .returned (.slice (some ⟨g, 0, none⟩) (len + 4) (len + 4)) ∧ Fresh w w' g (l ++ be 4 v) := by
  subst hx; exact add32_ex a cap len v l w hl hlen hv hat

theorem text_mid (ad : Option Addr) (cap len : Nat) (L a z : List UInt8) (s : ByteArray) (P : Int) (w : World) (hL : L = a ++ (be 2 s.size ++ (s.data.toList ++ z))) (hP : P = a.length) (hl : L.length = len) (hlen : len ≤ 281474976600000) (hcap : len ≤ cap) (hs : s.size ≤ 65535) (hat : At w ad L) :
    Calls Try.prog 11 #[.slice ad len cap, .int .i64 P] w fun e w' => e = .returned (.tuple #[.string s, .int .i64 (P + 2 + s.size), .bool true]) ∧ w' = w := by
  have h1 := (rd_be L a _ P 2 s.size hL hP (by omega)).1
  subst hP
  have hsz : s.data.toList.length = s.size := by simp
  have h2 := text_yes ad cap len L a.length s.size w hl hlen hcap hat h1 (by subst hL; simp [be_length] at hl; omega)
  have e : (⟨((L.drop (a.length + 2)).take s.size).toArray⟩ : ByteArray) = s := by
    subst hL
    have e1 : (a ++ (be 2 s.size ++ (s.data.toList ++ z))) = (a ++ be 2 s.size) ++ (s.data.toList ++ z) := by simp
    have e2 : (a ++ be 2 s.size).length = a.length + 2 := by simp [be_length]
    rw [e1, ← e2, List.drop_left, ← hsz, List.take_left]
  rw [e] at h2
  exact h2

/-- The bytes that the law puts together. -/
def backList (l : List UInt8) (p q : ByteArray) (v : Nat) : List UInt8 :=
  l ++ be 1 (v / 2048 % 256) ++ be 2 (v / 128 % 65536) ++ be 4 (v / 8 % 4294967296) ++ be 8 v ++ be 2 p.size ++ p.data.toList ++ be 2 q.size ++ q.data.toList

theorem back_length (l : List UInt8) (p q : ByteArray) (v : Nat) : (backList l p q v).length = l.length + 1 + 2 + 4 + 8 + (2 + p.size) + (2 + q.size) := by
  unfold backList; simp [be_length]; omega

theorem back_reads (l : List UInt8) (p q : ByteArray) (v : Nat) (hv : v < 18446744073709551616) :
    (rdV (backList l p q v) l.length 1 = ((v / 2048 % 256 : Nat) : Int) ∧ rdB (backList l p q v) l.length 1 = true) ∧
    (rdV (backList l p q v) (l.length + 1) 2 = ((v / 128 % 65536 : Nat) : Int) ∧ rdB (backList l p q v) (l.length + 1) 2 = true) ∧
    (rdV (backList l p q v) (l.length + 3) 4 = ((v / 8 % 4294967296 : Nat) : Int) ∧ rdB (backList l p q v) (l.length + 3) 4 = true) ∧
    (rdV (backList l p q v) (l.length + 7) 8 = (v : Int) ∧ rdB (backList l p q v) (l.length + 7) 8 = true) := by
  refine ⟨rd_be _ l (be 2 (v / 128 % 65536) ++ (be 4 (v / 8 % 4294967296) ++ (be 8 v ++ (be 2 p.size ++ (p.data.toList ++ (be 2 q.size ++ q.data.toList)))))) _ 1 _ ?_ rfl (by omega),
    rd_be _ (l ++ be 1 (v / 2048 % 256)) (be 4 (v / 8 % 4294967296) ++ (be 8 v ++ (be 2 p.size ++ (p.data.toList ++ (be 2 q.size ++ q.data.toList))))) _ 2 _ ?_ (by simp [be_length]) (by omega),
    rd_be _ (l ++ be 1 (v / 2048 % 256) ++ be 2 (v / 128 % 65536)) (be 8 v ++ (be 2 p.size ++ (p.data.toList ++ (be 2 q.size ++ q.data.toList)))) _ 4 _ ?_ (by simp [be_length]) (by omega),
    rd_be _ (l ++ be 1 (v / 2048 % 256) ++ be 2 (v / 128 % 65536) ++ be 4 (v / 8 % 4294967296)) (be 2 p.size ++ (p.data.toList ++ (be 2 q.size ++ q.data.toList))) _ 8 _ ?_ (by simp [be_length]) (by omega)⟩
  all_goals (unfold backList; simp only [List.append_assoc])

theorem back_text1 (l : List UInt8) (p q : ByteArray) (v : Nat) : backList l p q v = (l ++ be 1 (v / 2048 % 256) ++ be 2 (v / 128 % 65536) ++ be 4 (v / 8 % 4294967296) ++ be 8 v) ++ (be 2 p.size ++ (p.data.toList ++ (be 2 q.size ++ q.data.toList))) := by
  unfold backList; simp only [List.append_assoc]

theorem back_text2 (l : List UInt8) (p q : ByteArray) (v : Nat) : backList l p q v = (l ++ be 1 (v / 2048 % 256) ++ be 2 (v / 128 % 65536) ++ be 4 (v / 8 % 4294967296) ++ be 8 v ++ be 2 p.size ++ p.data.toList) ++ (be 2 q.size ++ (q.data.toList ++ [])) := by
  unfold backList; simp only [List.append_assoc, List.append_nil]

theorem back_head (l : List UInt8) (p q : ByteArray) (v : Nat) : ∃ z, backList l p q v = l ++ z :=
  ⟨be 1 (v / 2048 % 256) ++ (be 2 (v / 128 % 65536) ++ (be 4 (v / 8 % 4294967296) ++ (be 8 v ++ (be 2 p.size ++ (p.data.toList ++ (be 2 q.size ++ q.data.toList)))))), by unfold backList; simp only [List.append_assoc]⟩

theorem hid {p : Prop} (h : p) : Hid p := h

theorem At.pre {w : World} {a : Option Addr} {l z : List UInt8} (h : At w a (l ++ z)) : At w a l := by
  intro hl
  obtain ⟨b, o, rfl, hc⟩ := h (by simp [hl])
  refine ⟨b, o, rfl, fun i hi => ?_⟩
  rw [hc i (by simp; omega), List.getElem_append_left hi]

set_option maxRecDepth 100000 in
set_option maxHeartbeats 1000000 in
theorem back_long (a : Option Addr) (len cap : Nat) (p q : ByteArray) (v : Nat) (w : World) (hp : p.size ≤ 9223372036854775807) (hq : q.size ≤ 9223372036854775807) (h : 65535 < p.size ∨ 65535 < q.size) :
    Calls Try.prog 5 #[.slice a len cap, .string p, .string q, .int .u64 v] w fun e w' => e = .returned (.bool true) ∧ Below w.heap.size w w' := by
  by_cases h1 : 65535 < p.size
  · clear h
    go_enter Try.func5, Try.ntmps5
    go_wp2_with (go_at_call 13; refine (awake_any _).mono ?_; rintro e w12 ⟨rfl, hb12⟩)
    go_ret
    exact ⟨rfl, hb12⟩
  · have h2 : 65535 < q.size := by omega
    clear h
    go_enter Try.func5, Try.ntmps5
    go_wp2_with (go_at_call 13; refine (awake_any _).mono ?_; rintro e w12 ⟨rfl, hb12⟩)
    go_ret
    exact ⟨rfl, hb12⟩

set_option maxRecDepth 100000 in
set_option maxHeartbeats 1000000 in
theorem back_short (a : Option Addr) (len cap : Nat) (l : List UInt8) (p q : ByteArray) (v : Nat) (w : World) (hl : l.length = len) (hlen : len ≤ 140737488351232) (hat : At w a l) (hp : p.size ≤ 65535) (hq : q.size ≤ 65535) (hv : v < 18446744073709551616) :
    Calls Try.prog 5 #[.slice a len cap, .string p, .string q, .int .u64 v] w fun e w' => e = .returned (.bool true) ∧ Below w.heap.size w w' := by
  subst hl
  go_enter Try.func5, Try.ntmps5
  go_wp2_with fail
  refine (add8_int a cap l.length (v / 2048 % 256) _ l _ (by omega) rfl (by omega) (by omega) hat).mono ?_
  rintro e w1 ⟨g1, rfl, hr1, hb1⟩
  go_wp2_with fail
  refine (add16_int _ _ (l.length + 1) (v / 128 % 65536) _ _ _ (by rw [wrap_u16]; omega) (by simp [be_length]) (by omega) (by omega) hr1.at).mono ?_
  rintro e w2 ⟨g2, rfl, hr2, hb2⟩
  go_wp2_with fail
  refine (add32_int _ _ (l.length + 1 + 2) (v / 8 % 4294967296) _ _ _ (by omega) (by simp [be_length]) (by omega) (by omega) hr2.at).mono ?_
  rintro e w3 ⟨g3, rfl, hr3, hb3⟩
  go_wp2_with fail
  refine (add64_ex _ _ (l.length + 1 + 2 + 4) v _ _ (by simp [be_length]) (by omega) (by omega) hr3.at).mono ?_
  rintro e w4 ⟨g4, rfl, hr4, hb4⟩
  have hbA := bnext (bnext (bnext hb1 hb2) hb3) hb4
  clear hr1 hr2 hr3 hb1 hb2 hb3 hb4
  go_wp2_with fail
  refine (addtext_ex _ _ (l.length + 1 + 2 + 4 + 8) _ p _ (by simp [be_length]) (by omega) hp hr4.at).mono ?_
  rintro e w5 ⟨g5, rfl, hr5, hb5⟩
  go_wp2_with fail
  refine (addtext_ex _ _ (l.length + 1 + 2 + 4 + 8 + (2 + p.size)) _ q _ (by simp [be_length]; omega) (by omega) hq hr5.at).mono ?_
  rintro e w6 ⟨g6, rfl, hr6, hb6⟩
  replace hbA := bnext (bnext hbA hb5) hb6
  have hat6 := hat.below hbA
  clear hr4 hr5 hb5 hb6
  have hat9 : At w6 (some ⟨g6, 0, none⟩) (backList l p q v) := hr6.at
  have hN := back_length l p q v
  have HR := back_reads l p q v hv
  have H1 := back_text1 l p q v
  have H2 := back_text2 l p q v
  have H3 := back_head l p q v
  revert hat9 hN HR H1 H2 H3
  generalize backList l p q v = L
  intro hat9 hN HR H1 H2 H3
  clear hr6
  replace hN := hid hN
  replace HR := hid HR
  replace H1 := hid H1
  replace H2 := hid H2
  replace H3 := hid H3
  have hw16 := wrap_u16 ((v : Int) / 128)
  go_wp2_with fail
  refine (u8_any _ _ _ L l.length _ hN.out (by omega) hat9).mono ?_
  rintro e w7 ⟨rfl, rfl⟩
  rw [HR.out.1.1, HR.out.1.2]
  go_wp2_with fail
  refine (u16_any _ _ _ L (l.length + 1) _ hN.out (by omega) hat9).mono ?_
  rintro e w8 ⟨rfl, rfl⟩
  rw [HR.out.2.1.1, HR.out.2.1.2]
  go_wp2_with fail
  refine (u32_any _ _ _ L (l.length + 3) _ hN.out (by omega) hat9).mono ?_
  rintro e w9 ⟨rfl, rfl⟩
  rw [HR.out.2.2.1.1, HR.out.2.2.1.2]
  go_wp2_with fail
  refine (u64_any _ _ _ L (l.length + 7) _ hN.out (by omega) hat9).mono ?_
  rintro e w10 ⟨rfl, rfl⟩
  rw [HR.out.2.2.2.1, HR.out.2.2.2.2]
  go_wp2_with fail
  refine (text_mid _ _ _ L _ _ p (l.length + 15) _ H1.out (by simp [be_length]) hN.out (by omega) (Nat.le_refl _) hp hat9).mono ?_
  rintro e w11 ⟨rfl, rfl⟩
  go_wp2_with fail
  refine (text_mid _ _ _ L _ _ q (l.length + 15 + 2 + p.size) _ H2.out (by simp [be_length]; omega) hN.out (by omega) (Nat.le_refl _) hq hat9).mono ?_
  rintro e w12 ⟨rfl, rfl⟩
  go_wp2_with fail
  refine (same_any _ _ l.length l.length _ _ l l _ rfl rfl (by obtain ⟨z, hz⟩ := H3.out; rw [hz] at hat9; exact At.pre hat9) hat6 rfl).mono ?_
  rintro e w13 ⟨rfl, rfl⟩
  go_wp2_with (go_at_call 13; refine (awake_any _).mono ?_; rintro e w14 ⟨rfl, hb14⟩)
  go_ret
  exact ⟨rfl, bnext hbA hb14⟩
end Go.Proofs.Ytdchmffkbiaeaaa
