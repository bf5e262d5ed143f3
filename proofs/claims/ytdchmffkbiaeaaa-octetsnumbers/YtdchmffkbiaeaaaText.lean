/- What AddText and Text answer, for every slice of bytes of at most 281474976600000 elements, every text and every place; SameBytes. -/
import Derived.Test.YtdchmffkbiaeaaaPut
namespace Go.Proofs.Ytdchmffkbiaeaaa
open Go.RowKit

set_option maxHeartbeats 400000 in
theorem addtext_no (a : Option Addr) (cap len : Nat) (s : ByteArray) (w : World) (hs : 65535 < s.size) (hm : s.size ≤ 9223372036854775807) :
    Calls Try.prog 12 #[.slice a len cap, .string s] w fun e w' => e = .returned (.tuple #[.slice none 0 0, .int .i64 3]) ∧ w' = w := by
  go_enter Try.func12, Try.ntmps12
  go_wp2
  go_ret2
  exact ⟨rfl, rfl⟩

theorem copy_empty_run (w : World) (d : Option Addr) (n c : Nat) : (Builtin.copy_ #[25, 9] 3 #[.slice d n c, .string ByteArray.empty]).run Try.prog w = .ok (goInt 0) w := by
  obtain ⟨i0, hi, hz0, hz1, hz2⟩ := info_parts info5
  cases d <;> simp [Builtin.copy_, run_underlying Try.underlying25, Builtin.lenOf, Builtin.firstCells, sizeOf, typeInfo, hi, storeCells]

theorem text_over (l : List UInt8) (s : ByteArray) : over (over (l ++ List.replicate (2 + s.size) 0) l.length (be 2 s.size)) (l.length + 2) s.data.toList = l ++ be 2 s.size ++ s.data.toList := by
  have e1 : over (l ++ List.replicate (2 + s.size) 0) l.length (be 2 s.size) = (l ++ be 2 s.size) ++ List.replicate s.size 0 := by
    simp [over, be_length]
  have hsz : s.data.toList.length = s.size := by simp
  rw [e1]
  unfold over
  have hle : (l ++ be 2 s.size).length = l.length + 2 := by simp [be_length]
  rw [← hle, List.take_left, List.drop_append, hsz]
  simp

set_option maxHeartbeats 400000 in
theorem addtext_yes (a : Option Addr) (cap len : Nat) (l : List UInt8) (s : ByteArray) (w : World) (hl : l.length = len) (hlen : len ≤ 281474976600000) (hs : s.size ≤ 65535) (hat : At w a l) :
    Calls Try.prog 12 #[.slice a len cap, .string s] w fun e w' => e = .returned (.tuple #[.slice (some ⟨w.heap.size, 0, none⟩) (len + (2 + s.size)) (len + (2 + s.size)), .int .i64 0]) ∧ Row w' w.heap.size (l ++ be 2 s.size ++ s.data.toList) ∧ Below w.heap.size w w' := by
  subst hl
  by_cases h0 : s.size = 0
  · obtain rfl : s = ByteArray.empty := ByteArray.ext (Array.eq_empty_of_size_eq_zero h0)
    have hrun := copy_empty_run
    clear h0 hs
    go_enter Try.func12, Try.ntmps12
    go_wp2_with (first | (go_at_call 27; refine (longer_any a cap l.length 2 l _ rfl (by omega) hat).mono ?_; rintro e w1 ⟨rfl, hrow, hb1⟩) | (go_at_call 28; refine (put_any w.heap.size _ (l.length + 2) l.length 2 0 _ _ (by simp) (by omega) (by omega) (by omega) (by omega) hrow).mono ?_; rintro e w2 ⟨rfl, hrow2, hb2, hz2⟩))
    go_ret2
    rw [over_end] at hrow2
    exact ⟨rfl, by simpa using hrow2, hb1.trans hb2⟩
  · have h1 : 0 < s.size := by omega
    clear h0
    go_enter Try.func12, Try.ntmps12
    go_wp2_with (first | (go_at_call 27; refine (longer_any a cap l.length (2 + s.size) l _ rfl (by omega) hat).mono ?_; rintro e w1 ⟨rfl, hrow, hb1⟩) | (go_at_call 28; refine (put_any w.heap.size _ (l.length + (2 + s.size)) l.length 2 s.size _ _ (by simp) (by omega) (by omega) (by omega) (by omega) hrow).mono ?_; rintro e w2 ⟨rfl, hrow2, hb2, hz2⟩; obtain ⟨w3, hrun, hrow3, hb3, hz3⟩ := copy_string_run w2 w.heap.size (l.length + 2) _ s hrow2 (l.length + (2 + s.size) - (l.length + 2)) (l.length + (2 + s.size) - (l.length + 2)) (by omega) (by rw [over_length _ _ _ (by simp [be_length])]; simp)))
    go_ret2
    rw [text_over] at hrow3
    exact ⟨rfl, hrow3, hb1.trans (hb2.trans hb3)⟩

/-- 'string(b)' of a slice behind whose address the bytes l lie. -/
theorem conv_run (w : World) (a : Option Addr) (l : List UInt8) (n c : Nat) (hl : l.length = n) (hat : At w a l) : (convert 25 9 (.slice a n c)).run Try.prog w = .ok (.string ⟨l.toArray⟩) w := by
  subst hl
  by_cases e : l = []
  · subst e
    cases a with
    | none => exact run_convert_bytes_nil (P := Try.prog) w 25 5 Try.underlying25 Try.underlying5 _ _ 9 Try.underlying9
    | some x =>
      have hl : (loadCells x 0).run Try.prog w = .ok #[] w := by simpa using run_loadCells_list (P := Try.prog) w x [] (by simp)
      rw [List.length_nil, run_convert_bytes_string w 25 9 5 _ 0 c Try.underlying25 Try.underlying5 Try.underlying9, run_bytesToString w _ 0 c [] (by simpa using hl)]
      rfl
  · obtain ⟨b, o, rfl, hc⟩ := hat e
    rw [run_convert_bytes_arg (P := Try.prog) w 25 5 Try.underlying25 Try.underlying5 b o l.length c (l.map fun x => (x.toNat : Int)) (by simp) (fun i hi => by
      rw [hc i hi]; simp [List.getD, hi]) 9 Try.underlying9]
    congr 2
    apply ByteArray.ext
    apply Array.toList_inj.1
    rw [strOfNums_data, List.map_map]
    show _ = l
    conv => rhs; rw [← List.map_id l]
    apply List.map_congr_left
    intro x _
    simp

theorem conv_empty (w : World) (a : Option Addr) (c : Nat) : (convert 25 9 (.slice a 0 c)).run Try.prog w = .ok (.string ByteArray.empty) w :=
  conv_run w a [] 0 c rfl (fun h => absurd rfl h)

theorem At.window {w : World} {b o : Nat} {l : List UInt8} (hc : ∀ i (h : i < l.length), w.cell? ⟨b, o + i, none⟩ = some (.int .u8 (l[i].toNat : Int))) (p n : Nat) : At w (some ⟨b, o + p, none⟩) ((l.drop p).take n) := by
  intro _
  refine ⟨b, o + p, rfl, fun i hi => ?_⟩
  simp at hi
  rw [Nat.add_assoc, hc (p + i) (by omega)]
  simp

theorem text_no (a : Option Addr) (cap len : Nat) (l : List UInt8) (p : Int) (w : World) (hl : l.length = len) (hlen : len ≤ 281474976600000) (hat : At w a l)
    (h : ¬ (0 ≤ p ∧ p + 2 ≤ len ∧ p + 2 + rdV l p 2 ≤ len)) :
    Calls Try.prog 11 #[.slice a len cap, .int .i64 p] w fun e w' => e = .returned (.tuple #[.string ByteArray.empty, .int .i64 0, .bool false]) ∧ w' = w := by
  by_cases h0 : 0 ≤ p ∧ p + 2 ≤ len
  · have hB : rdB l p 2 = true := by unfold rdB; simp; omega
    have hv := rdV_bounds l p 2
    obtain ⟨V, hV⟩ : ∃ V : Nat, rdV l p 2 = V := ⟨(rdV l p 2).toNat, by omega⟩
    rw [hV] at hv h
    have HV : Hid (rdV l p 2 = (V : Int)) := hV
    have HB : Hid (rdB l p 2 = true) := hB
    clear hV hB
    have h1 : (len : Int) - V < p + 2 := by omega
    clear h
    go_enter Try.func11, Try.ntmps11
    go_wp2_with (first | (go_at_call 7; refine (u16_any a cap len l p _ hl (by omega) hat).mono ?_; rintro e w' ⟨rfl, rfl⟩; rw [HV.out, HB.out]) | (go_at_call 26; refine (holds_no a len cap (p + 2) V _ (by omega) (by omega) (by omega)).mono ?_; rintro e w' ⟨rfl, rfl⟩))
    go_ret3
    exact ⟨rfl, rfl⟩
  · have hB : rdB l p 2 = false := by unfold rdB; simp; omega
    have HB : Hid (rdB l p 2 = false) := hB
    clear hB h
    go_enter Try.func11, Try.ntmps11
    go_wp2_with (go_at_call 7; refine (u16_any a cap len l p _ hl (by omega) hat).mono ?_; rintro e w' ⟨rfl, rfl⟩; rw [HB.out])
    go_ret3
    exact ⟨rfl, rfl⟩

theorem text_yes (a : Option Addr) (cap len : Nat) (l : List UInt8) (p V : Nat) (w : World) (hl : l.length = len) (hlen : len ≤ 281474976600000) (hcap : len ≤ cap) (hat : At w a l)
    (hV : rdV l p 2 = V) (h : p + 2 + V ≤ len) :
    Calls Try.prog 11 #[.slice a len cap, .int .i64 p] w fun e w' => e = .returned (.tuple #[.string ⟨((l.drop (p + 2)).take V).toArray⟩, .int .i64 (p + 2 + V), .bool true]) ∧ w' = w := by
  have hB : rdB l p 2 = true := by unfold rdB; simp; omega
  have hv := rdV_bounds l p 2
  rw [hV] at hv
  have HV : Hid (rdV l p 2 = (V : Int)) := hV
  have HB : Hid (rdB l p 2 = true) := hB
  clear hV hB
  obtain ⟨b, o, rfl, hc⟩ := hat (by intro e; subst e; simp at hl; omega)
  by_cases hV0 : V = 0
  · subst hV0
    have hcv := conv_empty
    have e0 : (⟨((l.drop (p + 2)).take 0).toArray⟩ : ByteArray) = ByteArray.empty := by simp; rfl
    rw [e0]
    clear e0
    go_enter Try.func11, Try.ntmps11
    go_wp2_with (first | (go_at_call 7; refine (u16_any _ cap len l p _ hl (by omega) hat).mono ?_; rintro e w' ⟨rfl, rfl⟩; rw [HV.out, HB.out]) | (go_at_call 26; refine (holds_yes _ len cap (p + 2) 0 _ (by omega) (by omega) (by omega) (by omega)).mono ?_; rintro e w' ⟨rfl, rfl⟩))
    all_goals go_ret3
    all_goals exact ⟨rfl, rfl⟩
  · have hV1 : 0 < V := by omega
    have hcv := conv_run w _ _ V (cap - (p + 2)) (by simp; omega) (At.window hc (p + 2) V)
    go_enter Try.func11, Try.ntmps11
    go_wp2_with (first | (go_at_call 7; refine (u16_any _ cap len l p _ hl (by omega) hat).mono ?_; rintro e w' ⟨rfl, rfl⟩; rw [HV.out, HB.out]) | (go_at_call 26; refine (holds_yes _ len cap (p + 2) V _ (by omega) (by omega) (by omega) (by omega)).mono ?_; rintro e w' ⟨rfl, rfl⟩))
    go_ret3
    exact ⟨rfl, rfl⟩

theorem same_any (a1 a2 : Option Addr) (n1 n2 c1 c2 : Nat) (l1 l2 : List UInt8) (w : World) (h1 : l1.length = n1) (h2 : l2.length = n2) (at1 : At w a1 l1) (at2 : At w a2 l2) (h : l1 = l2) :
    Calls Try.prog 16 #[.slice a1 n1 c1, .slice a2 n2 c2] w fun e w' => e = .returned (.bool true) ∧ w' = w := by
  have HH : Hid (l1 = l2) := h
  clear h
  have k1 := conv_run w a1 l1 n1 c1 h1 at1
  have k2 := conv_run w a2 l2 n2 c2 h2 at2
  go_enter Try.func16, Try.ntmps16
  go_wp2
  go_ret
  exact ⟨ret_bool (by rw [HH.out]; simp), rfl⟩

end Go.Proofs.Ytdchmffkbiaeaaa
