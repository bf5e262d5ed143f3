/- CopyAccounts, SameAccounts; the document's Limit. -/
import Derived.Test.YtflapjehkgefdaaGreatRef3
namespace Go.Proofs.YtflapjehkgefdaaGreat
open Go.RowKit

/-- A list of accounts alone, as an answer. -/
def ATold1 (M : List Acc) (w : World) (e : Ending) (w' : World) : Prop :=
  ∃ a c, e = .returned (.slice a M.length c) ∧ M.length ≤ c ∧ AOwn w' w.heap.size (.slice a M.length c) M ∧ Below w.heap.size w w'

theorem three_av (x : Acc) : ∀ u ∈ [Value.string x.1, .string x.2.1, .int .i64 x.2.2], u.oneCell' = true := three_one x

set_option maxRecDepth 100000 in
set_option maxHeartbeats 1000000 in
theorem copy_any (a : Option Addr) (k c : Nat) (L : List Acc) (w : World) (hn : L.length = k) (hl : k ≤ 1048576) (hat : AAt w a L) :
    Calls Tryz.prog 21 #[.slice a k c] w fun e w' => ATold1 L w e w' := by
  obtain ⟨i0, hi, hz0, hz1, hz2⟩ := info_parts info37
  replace hn := hid hn
  replace hat := hid hat
  go_enter Tryz.func21, Tryz.ntmps21
  go_wp2_with fail
  go_loopw [3, 4] (fun v i wr => ∃ j : Nat, j ≤ k ∧ i = .int .i64 (j : Int) ∧ Hid (AOwn wr w.heap.size v (L.take j)) ∧ Below w.heap.size w wr) (fun _ i _ => k - (intOf i).toNat)
  case atStart => exact ⟨0, Nat.zero_le _, rfl, hid (AOwn.nil _ _), Below.refl _ _⟩
  case round =>
    obtain ⟨j, hj, rfl, hown, hb⟩ := hrel
    obtain ⟨va, vc, e, hvc⟩ := owns_form hown.out
    subst e
    by_cases hlt : j < k
    · have hjL : j < L.length := by rw [hn.out]; exact hlt
      obtain ⟨b, o, e⟩ := hat.out.place (by omega)
      subst e
      obtain ⟨x0, x1, x2⟩ := (hat.out.below hb).one hjL
      have hlen : (L.take j).length = j := by rw [List.length_take]; omega
      have bl := below_lit wr (.cells #[.string (accAt L j).1, .string (accAt L j).2.1, .int .i64 (accAt L j).2.2] 80)
      have B0 := bnext hb bl
      have hown2 := hid (hown.out.below bl)
      have hcat := hid (cat_lit wr 80 [.string (accAt L j).1, .string (accAt L j).2.1, .int .i64 (accAt L j).2.2] #[.string (accAt L j).1, .string (accAt L j).2.1, .int .i64 (accAt L j).2.2] rfl)
      have hone := hid (three_av (accAt L j))
      have hnext : L.take (j + 1) = L.take j ++ [accAt L j] := by rw [take_more hjL, accAt_eq hjL]
      replace hnext := hid hnext
      replace hlen := hid hlen
      rw [hlen.out] at hown2 hown hvc ⊢
      generalize hDD : L.take j = D at *
      replace hDD := hid hDD
      generalize accAt L j = X at *
      obtain ⟨X0, X1, X2⟩ := X
      dsimp only at *
      have hlenD : D.length = j := hlen.out
      replace hlenD := hid hlenD
      have hown2' : (wr.alloc (.cells #[.string X0, .string X1, .int .i64 X2] 80)).ownsRow w.heap.size 80 3 (.slice va j vc) j (D.flatMap ac) := by
        have := hown2.out
        unfold AOwn at this
        rw [hlenD.out] at this
        exact this
      replace hown2' := hid hown2'
      go_wp2_with (at_builtin; refine Hid.out ?_)
      refine wpList_cat _ rfl (.tmp 11) (.tmp 16) 24 rfl w.heap.size 80 i0 _ 3 40 Tryz.underlying24 hi hz0 hz1 hz2 rfl (by omega) _ _ _ rfl hown2'.out (some ⟨wr.heap.size, 0, none⟩) 1 1 [.string X0, .string X1, .int .i64 X2] rfl rfl hcat.out hone.out (by unfold maxLen; omega) (by omega) B0.size ?_
      intro v' w4 ho4 hg4 hv4
      have hown4 : AOwn w4 w.heap.size v' (D ++ [(X0, X1, X2)]) := by
        unfold AOwn
        rw [ac_snoc, List.length_append, hlenD.out]
        exact ho4
      have B4 : Below w.heap.size w w4 := Below.grown B0 hg4 B0.size (fun j hj => (hown2'.out.lt _ hj).1)
      replace hown4 := hid hown4
      clear ho4 hg4 hv4 hcat
      go_wp2_with fail
      go_roundw
      case rel => exact ⟨j + 1, by omega, by go_num, hid (by rw [hnext.out]; exact hown4.out), B4⟩
      case measure => simp [intOf]; omega
    · have hje : j = k := by omega
      subst hje
      have hf : L.take j = L := by rw [← hn.out, List.take_length]
      rw [hf] at hown hvc ⊢
      replace hf := hid hf
      go_wp2
      go_ret
      exact ⟨va, vc, rfl, hvc, hown.out, hb⟩

set_option maxRecDepth 100000 in
/-- SameAccounts of equal lists. -/
theorem samea_any (a a' : Option Addr) (k c c' : Nat) (L : List Acc) (w : World) (hn : L.length = k) (hl : k ≤ 4611686018427387904) (hat : AAt w a L) (hat' : AAt w a' L) :
    Calls Tryz.prog 31 #[.slice a k c, .slice a' k c'] w fun e w' => e = .returned (.bool true) ∧ Below w.heap.size w w' := by
  replace hn := hid hn
  replace hat := hid hat
  replace hat' := hid hat'
  go_enter Tryz.func31, Tryz.ntmps31
  go_wp2_with fail
  go_loopw [5] (fun i wr => ∃ j : Nat, j ≤ k ∧ i = .int .i64 (j : Int) ∧ Below w.heap.size w wr) (fun i _ => k - (intOf i).toNat)
  case atStart => exact ⟨0, Nat.zero_le _, rfl, Below.refl _ _⟩
  case round =>
    obtain ⟨j, hj, rfl, hb⟩ := hrel
    by_cases hlt : j < k
    · have hjT : j < L.length := by rw [hn.out]; exact hlt
      obtain ⟨b, o, e⟩ := hat.out.place (by omega)
      subst e
      obtain ⟨b', o', e⟩ := hat'.out.place (by omega)
      subst e
      obtain ⟨x0, x1, x2⟩ := (hat.out.below hb).one hjT
      obtain ⟨y0, y1, y2⟩ := (hat'.out.below hb).one hjT
      generalize accAt L j = X at *
      obtain ⟨X0, X1, X2⟩ := X
      dsimp only at *
      go_wp2_with fail
      go_quiet (fail)
      have B1 := below_drewN hb nq
      go_wp2_with fail
      go_roundw
      case rel => exact ⟨j + 1, by omega, by go_num, B1⟩
      case measure => simp [intOf]; omega
    · have hje : j = k := by omega
      subst hje
      go_wp2
      go_ret
      exact ⟨rfl, hb⟩

theorem lerr_arg {L : List Acc} {n : ByteArray} {x : Int} (h : rightB L = false) : lerrP L n x = 2 := by unfold lerrP; rw [err_arg h]; split <;> rfl
theorem lerr_lim {L : List Acc} {n : ByteArray} {x : Int} (h : limB x = false) : lerrP L n x = 2 := by unfold lerrP; rw [h]; rfl
theorem lerr_in {L : List Acc} {n : ByteArray} {x : Int} (h : limB x = true) : lerrP L n x = errP L n := by unfold lerrP; rw [h]; rfl

end Go.Proofs.YtflapjehkgefdaaGreat
