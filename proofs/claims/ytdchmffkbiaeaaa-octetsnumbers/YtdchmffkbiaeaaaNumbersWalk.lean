/- OctetsNumbers's Go text returns true, and turns nothing that was there. -/
import Derived.Test.YtdchmffkbiaeaaaAwake
namespace Go.Proofs.Ytdchmffkbiaeaaa
open Go.RowKit

def places : List Int := [1, -1, 2, 9223372036854775807, -9223372036854775808]

theorem places_ne (k : Nat) (h : k < 5) : places.getD k 0 ≠ 0 ∧ -9223372036854775808 ≤ places.getD k 0 ∧ places.getD k 0 ≤ 9223372036854775807 := by
  match k, h with
  | 0, _ => decide
  | 1, _ => decide
  | 2, _ => decide
  | 3, _ => decide
  | 4, _ => decide

theorem places_lit (w : World) (k : Nat) (h : k < 5) : (w.alloc (.cells #[.int .i64 1, .int .i64 (-1), .int .i64 2, .int .i64 9223372036854775807, .int .i64 (-9223372036854775808)] 3)).cell? ⟨w.heap.size, k, none⟩ = some (.int .i64 (places.getD k 0)) := by
  match k, h with
  | 0, _ => simp [places]
  | 1, _ => simp [places]
  | 2, _ => simp [places]
  | 3, _ => simp [places]
  | 4, _ => simp [places]

theorem n1 : rdV [1, 2] 0 2 = 258 ∧ rdB [1, 2] 0 2 = true := by decide
theorem n2 : rdV (List.replicate 7 0) 0 8 = 0 ∧ rdB (List.replicate 7 0) 0 8 = false := by decide
theorem n3 : rdV [128, 0, 0, 0, 0, 0, 0, 1] 0 8 = 9223372036854775809 ∧ rdB [128, 0, 0, 0, 0, 0, 0, 1] 0 8 = true := by decide
theorem n4 : rdV [5] 0 1 = 5 ∧ rdB [5] 0 1 = true := by decide
theorem n5 (q : Int) (h : q ≠ 0) : rdV [1, 2] q 2 = 0 ∧ rdB [1, 2] q 2 = false := by
  unfold rdV rdB
  simp
  omega
theorem n6 (q : Int) : rdV [1, 2] q 4 = 0 ∧ rdB [1, 2] q 4 = false := by
  unfold rdV rdB
  simp
  omega

/-- 'make([]byte, n)': a new row of n zero bytes, its block a letter. -/
theorem wpList_make_row (w : World) {ops : Array Oper} {rest : List Oper} {o : Oper} {a : Act} {Q : Exit → Act → World → Prop}
    (hg : o.guard = none) (l c : Operand) (hop : o.op = Op.makeSlice 25 l c)
    (L C : Int) (n : Nat) (hl : a.eval l = .int .i64 L) (hc : a.eval c = .int .i64 C) (hL : L = (n : Int)) (hC : C = (n : Int)) (hn : n ≤ 281474976710656)
    (hK : ∀ g w', Row w' g (List.replicate n 0) → Below w.heap.size w w' → wpList Try.prog ops Q rest (a.put o.dst (.slice (some ⟨g, 0, none⟩) n n)) w') :
    wpList Try.prog ops Q (o :: rest) a w := by
  obtain ⟨i0, hi, hz0, hz1, hz2⟩ := info_parts info5
  refine wpList_make_full w hg l c 25 hop w.heap.size 5 i0 (.int .u8 0) 1 Try.underlying25 hi hz0 hz1 .i64 .i64 L C n hl hc hL hC (by rw [hz2]; omega) (by unfold maxLen; omega) (Nat.le_refl _) ?_
  intro w1 hown hgrow
  exact hK _ w1 (row_made hown) ((Below.refl _ _).grown hgrow (Nat.le_refl _) (fun k hk => by cases hk))

/-- 'string(make([]byte, n))'. -/
theorem zeros_run (w : World) (g n : Nat) (h : Row w g (List.replicate n 0)) : ∃ S : ByteArray, S.size = n ∧ (convert 25 9 (.slice (some ⟨g, 0, none⟩) n n)).run Try.prog w = .ok (.string S) w :=
  ⟨_, by simp [ByteArray.size], conv_run w _ _ n n (by simp) h.at⟩

theorem n7 : rdV [0, 2, 5, 6] 1 2 = 517 := by decide
theorem n8 : rdV [0, 3, 5, 6] 0 2 = 3 := by decide
theorem text_lit (w : World) (a : Option Addr) (h : At w a [0, 2, 5, 6]) :
    Calls Try.prog 11 #[.slice a 4 4, .int .i64 0] w fun e w' => e = .returned (.tuple #[.string ⟨#[5, 6]⟩, .int .i64 4, .bool true]) ∧ w' = w :=
  text_yes a 4 4 [0, 2, 5, 6] 0 2 w rfl (by omega) (by omega) h (by decide) (by omega)

theorem cell_keep {w w' : World} {p : Addr} {v : Value} (h : w.cell? p = some v) (hb : Below w.heap.size w w') : w'.cell? p = some v := by
  rw [hb.cell (by
    rcases Nat.lt_or_ge p.block w.heap.size with h2 | h2
    · exact h2
    · simp [World.cell?, Array.getElem?_eq_none h2] at h)]
  exact h

theorem places_at (w : World) (g k : Nat) (h : k < 5) (hg : w.heap.size = g) : (w.alloc (.cells #[.int .i64 1, .int .i64 (-1), .int .i64 2, .int .i64 9223372036854775807, .int .i64 (-9223372036854775808)] 3)).cell? ⟨g, k, none⟩ = some (.int .i64 (places.getD k 0)) := by
  subst hg; exact places_lit w k h

set_option maxRecDepth 100000 in
set_option maxHeartbeats 1000000 in
theorem numbers_any (w : World) :
    Calls Try.prog 3 #[] w fun e w' => e = .returned (.bool true) ∧ Below w.heap.size w w' := by
  go_enter Try.func3, Try.ntmps3
  go_wp2_with fail
  refine (u16_any _ 2 2 [1, 2] 0 _ rfl (by omega) (at_lit w [1, 2] _ rfl)).mono ?_
  rintro e w' ⟨rfl, rfl⟩
  rw [n1.1, n1.2]
  have hb0 := below_lit w (.cells ([1, 2].map B).toArray 5)
  go_wp2_with (at_make; refine wpList_make_row _ rfl (.const (.int .i64 7)) (.const (.int .i64 7)) rfl _ _ 7 rfl rfl (by omega) (by omega) (by omega) ?_; intro g1 w1 hr1 hb1)
  replace hb1 := bnext hb0 hb1
  clear hb0
  refine (u64_any _ 7 7 (List.replicate 7 0) 0 _ (by simp) (by omega) hr1.at).mono ?_
  rintro e w2 ⟨rfl, rfl⟩
  rw [n2.1, n2.2]
  clear hr1
  go_wp2_with fail
  refine (u64_any _ 8 8 [128, 0, 0, 0, 0, 0, 0, 1] 0 _ rfl (by omega) (at_lit _ [128, 0, 0, 0, 0, 0, 0, 1] _ rfl)).mono ?_
  rintro e w3 ⟨rfl, rfl⟩
  rw [n3.1, n3.2]
  go_wp2_with fail
  refine (u8_any _ 1 1 [5] 0 _ rfl (by omega) (at_lit' _ _ [5] _ (by simp) rfl)).mono ?_
  rintro e w4 ⟨rfl, rfl⟩
  rw [n4.1, n4.2]
  go_wp2
  go_loopw [78] (fun i wr => ∃ k : Nat, k ≤ 5 ∧ i = .int .i64 k ∧ Below w.heap.size w wr ∧ ∀ j, j < 5 → wr.cell? ⟨w2.heap.size + 2, j, none⟩ = some (.int .i64 (places.getD j 0))) (fun i _ => 5 - (intOf i).toNat)
  case atStart => exact ⟨0, by omega, rfl, bnext (bnext (bnext hb1 (below_lit _ _)) (below_lit _ _)) (below_lit _ _), fun j hj => places_at _ _ j hj (by simp)⟩
  case round =>
    obtain ⟨k, hk, rfl, hb, hc⟩ := hrel
    by_cases hlt : k < 5
    · obtain ⟨q, hq⟩ : ∃ q, q = places.getD k 0 := ⟨_, rfl⟩
      have hne := places_ne k hlt
      have hck := hc k hlt
      rw [← hq] at hne hck
      obtain ⟨hne, hlo, hhi⟩ := hne
      have HC : Hid (∀ j, j < 5 → wr.cell? ⟨w2.heap.size + 2, j, none⟩ = some (.int .i64 (places.getD j 0))) := hc
      clear hc hq
      have hlt' : (k : Int) < 5 := by omega
      go_wp2_with fail
      refine (u16_any _ 2 2 [1, 2] q _ rfl (by omega) (at_lit _ [1, 2] _ rfl)).mono ?_
      rintro e w5 ⟨rfl, rfl⟩
      rw [(n5 q hne).1, (n5 q hne).2]
      go_wp2_with fail
      refine (u32_any _ 2 2 [1, 2] q _ rfl (by omega) (at_lit' _ _ [1, 2] _ (by simp) rfl)).mono ?_
      rintro e w6 ⟨rfl, rfl⟩
      rw [(n6 q).1, (n6 q).2]
      go_wp2_with fail
      refine (text_no _ 2 2 [1, 2] q _ rfl (by omega) (at_lit' _ _ [1, 2] _ (by simp) rfl) (by omega)).mono ?_
      rintro e w7 ⟨rfl, rfl⟩
      go_wp2
      go_roundw
      case rel => exact ⟨k + 1, by omega, by go_num, bnext (bnext (bnext hb (below_lit _ _)) (below_lit _ _)) (below_lit _ _), fun j hj => cell_keep (HC.out j hj) (bnext (bnext (below_lit _ _) (below_lit _ _)) (below_lit _ _))⟩
      case measure => simp [intOf]; omega
    · have hk5 : ¬ (k : Int) < 5 := by omega
      clear hc hlt hk
      go_wp2_with fail
      refine (text_lit _ _ (at_lit _ [0, 2, 5, 6] _ rfl)).mono ?_
      rintro e w5 ⟨rfl, rfl⟩
      go_wp2_with fail
      refine (text_no _ 4 4 [0, 2, 5, 6] 1 _ rfl (by omega) (at_lit' _ _ [0, 2, 5, 6] _ (by simp) rfl) (by rw [n7]; omega)).mono ?_
      rintro e w6 ⟨rfl, rfl⟩
      go_wp2_with fail
      refine (text_no _ 4 4 [0, 3, 5, 6] 0 _ rfl (by omega) (at_lit' _ _ [0, 3, 5, 6] _ (by simp) rfl) (by rw [n8]; omega)).mono ?_
      rintro e w7 ⟨rfl, rfl⟩
      have hb7 := bnext (bnext (bnext hb (below_lit _ (.cells ([0, 2, 5, 6].map B).toArray 5))) (below_lit _ (.cells ([0, 2, 5, 6].map B).toArray 5))) (below_lit _ (.cells ([0, 3, 5, 6].map B).toArray 5))
      go_wp2_with (at_make; refine wpList_make_row _ rfl (.const (.int .i64 65536)) (.const (.int .i64 65536)) rfl _ _ 65536 rfl rfl (by omega) (by omega) (by omega) ?_; intro g8 w8 hr8 hb8; obtain ⟨S, hS, hrun⟩ := zeros_run w8 g8 _ hr8)
      refine (addtext_no none 0 0 S _ (by omega) (by omega)).mono ?_
      rintro e w9 ⟨rfl, rfl⟩
      replace hb8 := bnext hb7 hb8
      clear hr8 hrun hS hb7
      go_wp2_with (at_make; refine wpList_make_row _ rfl (.const (.int .i64 65535)) (.const (.int .i64 65535)) rfl _ _ 65535 rfl rfl (by omega) (by omega) (by omega) ?_; intro g10 w10 hr10 hb10; obtain ⟨T, hT, hrun2⟩ := zeros_run w10 g10 _ hr10)
      refine (addtext_ex none 0 0 [] T _ rfl (by omega) (by omega) (at_nil _ _)).mono ?_
      rintro e w11 ⟨g11, rfl, hf11⟩
      clear hr10 hrun2
      go_wp2_with (go_at_call 13; refine (awake_any _).mono ?_; rintro e w12 ⟨rfl, hb12⟩)
      go_ret
      exact ⟨rfl, bnext (bnext (bnext hb8 hb10) hf11.2) hb12⟩
end Go.Proofs.Ytdchmffkbiaeaaa
