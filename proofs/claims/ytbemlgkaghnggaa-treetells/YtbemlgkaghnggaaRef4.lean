/- CopyAccounts, SameAccounts; the document's Limit. -/
import Derived.Test.YtbemlgkaghnggaaRef3
namespace Go.Proofs.Ytbemlgkaghnggaa
open Go.RowKit

/-- A list of accounts alone, as an answer. -/
def ATold1 (M : List Acc) (w : World) (e : Ending) (w' : World) : Prop :=
  ∃ a c, e = .returned (.slice a M.length c) ∧ M.length ≤ c ∧ AOwn w' w.heap.size (.slice a M.length c) M ∧ Below w.heap.size w w'

theorem three_av (x : Acc) : ∀ u ∈ [Value.string x.1, .string x.2.1, .int .i64 x.2.2], u.oneCell' = true := three_one x

set_option maxRecDepth 100000 in
set_option maxHeartbeats 1000000 in
theorem copy_any (a : Option Addr) (k c : Nat) (L : List Acc) (w : World) (hn : L.length = k) (hl : k ≤ 1048576) (hat : AAt w a L) :
    Calls Try.prog 6 #[.slice a k c] w fun e w' => ATold1 L w e w' := by
  obtain ⟨i0, hi, hz0, hz1, hz2⟩ := info_parts info37
  replace hn := hid hn
  replace hat := hid hat
  go_enter Try.func6, Try.ntmps6
  go_wp2_with fail
  go_loopw [3, 4] (fun v i wr => ∃ j : Nat, j ≤ k ∧ i = .int .i64 (j : Int) ∧ Hid (AOwn wr w.heap.size v (L.take j)) ∧ Below w.heap.size w wr) (fun _ i _ => k - (intOf i).toNat)
  case atStart => exact ⟨0, Nat.zero_le _, rfl, hid (AOwn.nil _ _), Below.refl _ _⟩
  case round =>
    obtain ⟨j, hj, rfl, hown, hb⟩ := hrel
    obtain ⟨va, vc, e, hvc⟩ := owns_form hown.out
    subst e
    by_cases hlt : j < k
    · have hjL : j < L.length := by rw [hn.out]; exact hlt
      obtain ⟨b, o, e⟩ := hat.out.place (by omega)
      subst e
      obtain ⟨x0, x1, x2⟩ := (hat.out.below hb).one hjL
      have hlen : (L.take j).length = j := by rw [List.length_take]; omega
      have bl := below_lit wr (.cells #[.string (accAt L j).1, .string (accAt L j).2.1, .int .i64 (accAt L j).2.2] 37)
      have B0 := bnext hb bl
      have hown2 := hid (hown.out.below bl)
      have hcat := hid (cat_lit wr 37 [.string (accAt L j).1, .string (accAt L j).2.1, .int .i64 (accAt L j).2.2] #[.string (accAt L j).1, .string (accAt L j).2.1, .int .i64 (accAt L j).2.2] rfl)
      have hone := hid (three_av (accAt L j))
      have hnext : L.take (j + 1) = L.take j ++ [accAt L j] := by rw [take_more hjL, accAt_eq hjL]
      replace hnext := hid hnext
      replace hlen := hid hlen
      rw [hlen.out] at hown2 hown hvc ⊢
      generalize hDD : L.take j = D at *
      replace hDD := hid hDD
      generalize accAt L j = X at *
      obtain ⟨X0, X1, X2⟩ := X
      dsimp only at *
      have hlenD : D.length = j := hlen.out
      replace hlenD := hid hlenD
      have hown2' : (wr.alloc (.cells #[.string X0, .string X1, .int .i64 X2] 37)).ownsRow w.heap.size 37 3 (.slice va j vc) j (D.flatMap ac) := by
        have := hown2.out
        unfold AOwn at this
        rw [hlenD.out] at this
        exact this
      replace hown2' := hid hown2'
      go_wp2_with (at_builtin; refine Hid.out ?_)
      refine wpList_cat _ rfl (.tmp 11) (.tmp 16) 22 rfl w.heap.size 37 i0 _ 3 40 Try.underlying22 hi hz0 hz1 hz2 rfl (by omega) _ _ _ rfl hown2'.out (some ⟨wr.heap.size, 0, none⟩) 1 1 [.string X0, .string X1, .int .i64 X2] rfl rfl hcat.out hone.out (by unfold maxLen; omega) (by omega) B0.size ?_
      intro v' w4 ho4 hg4 hv4
      have hown4 : AOwn w4 w.heap.size v' (D ++ [(X0, X1, X2)]) := by
        unfold AOwn
        rw [ac_snoc, List.length_append, hlenD.out]
        exact ho4
      have B4 : Below w.heap.size w w4 := Below.grown B0 hg4 B0.size (fun j hj => (hown2'.out.lt _ hj).1)
      replace hown4 := hid hown4
      clear ho4 hg4 hv4 hcat
      go_wp2_with fail
      go_roundw
      case rel => exact ⟨j + 1, by omega, by go_num, hid (by rw [hnext.out]; exact hown4.out), B4⟩
      case measure => simp [intOf]; omega
    · have hje : j = k := by omega
      subst hje
      have hf : L.take j = L := by rw [← hn.out, List.take_length]
      rw [hf] at hown hvc ⊢
      replace hf := hid hf
      go_wp2
      go_ret
      exact ⟨va, vc, rfl, hvc, hown.out, hb⟩

set_option maxRecDepth 100000 in
/-- SameAccounts of equal lists. -/
theorem samea_any (a a' : Option Addr) (k c c' : Nat) (L : List Acc) (w : World) (hn : L.length = k) (hl : k ≤ 4611686018427387904) (hat : AAt w a L) (hat' : AAt w a' L) :
    Calls Try.prog 20 #[.slice a k c, .slice a' k c'] w fun e w' => e = .returned (.bool true) ∧ Below w.heap.size w w' := by
  replace hn := hid hn
  replace hat := hid hat
  replace hat' := hid hat'
  go_enter Try.func20, Try.ntmps20
  go_wp2_with fail
  go_loopw [5] (fun i wr => ∃ j : Nat, j ≤ k ∧ i = .int .i64 (j : Int) ∧ Below w.heap.size w wr) (fun i _ => k - (intOf i).toNat)
  case atStart => exact ⟨0, Nat.zero_le _, rfl, Below.refl _ _⟩
  case round =>
    obtain ⟨j, hj, rfl, hb⟩ := hrel
    by_cases hlt : j < k
    · have hjT : j < L.length := by rw [hn.out]; exact hlt
      obtain ⟨b, o, e⟩ := hat.out.place (by omega)
      subst e
      obtain ⟨b', o', e⟩ := hat'.out.place (by omega)
      subst e
      obtain ⟨x0, x1, x2⟩ := (hat.out.below hb).one hjT
      obtain ⟨y0, y1, y2⟩ := (hat'.out.below hb).one hjT
      generalize accAt L j = X at *
      obtain ⟨X0, X1, X2⟩ := X
      dsimp only at *
      go_wp2_with fail
      go_quiet (fail)
      have B1 := below_drewN hb nq
      go_wp2_with fail
      go_roundw
      case rel => exact ⟨j + 1, by omega, by go_num, B1⟩
      case measure => simp [intOf]; omega
    · have hje : j = k := by omega
      subst hje
      go_wp2
      go_ret
      exact ⟨rfl, hb⟩

theorem lerr_arg {L : List Acc} {n : ByteArray} {x : Int} (h : rightB L = false) : lerrP L n x = 2 := by unfold lerrP; rw [err_arg h]; split <;> rfl
theorem lerr_lim {L : List Acc} {n : ByteArray} {x : Int} (h : limB x = false) : lerrP L n x = 2 := by unfold lerrP; rw [h]; rfl
theorem lerr_in {L : List Acc} {n : ByteArray} {x : Int} (h : limB x = true) : lerrP L n x = errP L n := by unfold lerrP; rw [h]; rfl

set_option maxRecDepth 100000 in
set_option maxHeartbeats 1000000 in
theorem rlimit_any (a : Option Addr) (k c : Nat) (L : List Acc) (n : ByteArray) (x : Int) (w : World) (hn : L.length = k) (hl : k ≤ 4611686018427387904) (hkc : k ≤ c) (hsz : Sized L) (hat : AAt w a L) :
    Calls Try.prog 12 #[.slice a k c, .string n, .int .i64 x] w fun e w' => ATold (if lerrP L n x = 0 then limP L n x else []) (lerrP L n x) w e w' := by
  have k1 := rright_any a k c L w hn hl hkc hsz hat
  have k2 := fun w2 (h : Below w.heap.size w w2) => rfind_any a k c L n w2 hn hl (hat.below h)
  cases hR : rightB L with
  | false =>
    rw [hR] at k1
    rw [lerr_arg hR, if_neg (by omega)]
    replace hn := hid hn
    replace hat := hid hat
    replace hR := hid hR
    replace hsz := hid hsz
    go_enter Try.func12, Try.ntmps12
    go_wp2_with fail
    refine k1.mono ?_
    rintro e w1 ⟨rfl, hb1⟩
    go_wp2
    go_ret2
    exact ATold.none hb1
  | true =>
    rw [hR] at k1
    by_cases h1 : x < -1
    · have g1 : decide (x < -1) = true := by simpa using h1
      rw [lerr_lim (lim_lo h1), if_neg (by omega)]
      replace hn := hid hn
      replace hat := hid hat
      replace hR := hid hR
      replace hsz := hid hsz
      go_enter Try.func12, Try.ntmps12
      go_wp2_with fail
      refine k1.mono ?_
      rintro e w1 ⟨rfl, hb1⟩
      go_wp2
      go_ret2
      exact ATold.none hb1
    · have g1 : decide (x < -1) = false := by simpa using h1
      by_cases h2 : 1073741824 < x
      · have g2 : decide (1073741824 < x) = true := by simpa using h2
        rw [lerr_lim (lim_hi h2), if_neg (by omega)]
        replace hn := hid hn
        replace hat := hid hat
        replace hR := hid hR
        replace hsz := hid hsz
        go_enter Try.func12, Try.ntmps12
        go_wp2_with fail
        refine k1.mono ?_
        rintro e w1 ⟨rfl, hb1⟩
        go_wp2
        go_ret2
        exact ATold.none hb1
      · have g2 : decide (1073741824 < x) = false := by simpa using h2
        rw [lerr_in (lim_in h1 h2)]
        cases hi : fi L n with
        | none =>
          rw [hi] at k2
          rw [err_no hR hi, if_neg (by omega)]
          simp only [FRet] at k2
          replace hn := hid hn
          replace hat := hid hat
          replace hR := hid hR
          replace hsz := hid hsz
          replace hi := hid hi
          go_enter Try.func12, Try.ntmps12
          go_wp2_with fail
          refine k1.mono ?_
          rintro e w1 ⟨rfl, hb1⟩
          go_wp2_with fail
          refine (k2 _ hb1).mono ?_
          rintro e w2 ⟨rfl, rfl⟩
          go_wp2
          go_ret2
          exact ATold.none hb1
        | some i =>
          rw [hi] at k2
          rw [err_of hR hi, if_pos rfl]
          simp only [FRet] at k2
          have hk16 : k ≤ 16 := by rw [← hn]; exact (right_is.1 hR).2.1
          have kC := fun w2 (hb : Below w.heap.size w w2) => copy_any a k c L w2 hn (by omega) (hat.below hb)
          have hiL := fi_lt hi
          have hik : i < k := by rw [← hn]; exact hiL
          have hlim : limP L n x = L.set i ((accAt L i).1, (accAt L i).2.1, x) := by unfold limP; rw [hi]
          have hlen := hid (lim_len L n x)
          rw [hn] at hlen
          replace hlim := hid hlim
          replace hn := hid hn
          replace hat := hid hat
          replace hR := hid hR
          replace hsz := hid hsz
          replace hi := hid hi
          go_enter Try.func12, Try.ntmps12
          go_wp2_with fail
          refine k1.mono ?_
          rintro e w1 ⟨rfl, hb1⟩
          go_wp2_with fail
          refine (k2 _ hb1).mono ?_
          rintro e w2 ⟨rfl, rfl⟩
          go_wp2_with fail
          refine (kC _ hb1).mono ?_
          rintro e w3 ⟨va, vc, rfl, hvc, ho, hb3⟩
          rw [hn.out] at hvc ho ⊢
          have B3 := bnext hb1 hb3
          obtain ⟨g, c', e, hgb, hgl, hc', hfz⟩ := owns_spot (show w3.ownsRow w2.heap.size 37 3 (.slice va k vc) k (L.flatMap ac) by have := ho; unfold AOwn at this; rwa [hn.out] at this) (by omega)
          simp only [Value.slice.injEq] at e
          obtain ⟨rfl, _, rfl⟩ := e
          have hset := AOwn.set ho hn.out hik ((accAt L i).1, (accAt L i).2.1, x) 2 (.int .i64 x) (by omega) rfl
          rw [← hlim.out] at hset
          have hcell := (ho.dat.one hiL).2.2
          rw [show 0 + i * 3 + 2 = i * 3 + 2 by omega] at hcell
          have hfz2 := hfz (i * 3 + 2)
          have B4 := Below.setCell (p := ⟨g, i * 3 + 2, none⟩) B3 (Nat.le_trans hb1.size hgb) (.int .i64 x)
          replace hset := hid hset
          replace ho := hid ho
          clear hfz
          go_wp2
          go_ret2
          refine ⟨some ⟨g, 0, none⟩, vc, by rw [hlen.out]; rfl, by rw [hlen.out]; exact hvc, ?_, B4⟩
          rw [hlen.out]
          exact hset.out.low hb1.size

end Go.Proofs.Ytbemlgkaghnggaa
