/- The accounts below one; a list with another limit of one account. -/
import Derived.Test.YtilncacmkfohdaaTexts
namespace Go.Proofs.Ytilncacmkfohdaa
open Go.RowKit

/-- Those of the first j accounts that are below n. -/
def belTo (L : List Acc) (n : ByteArray) (j : Nat) : List ByteArray := ((L.take j).map (·.1)).filter fun m => hasB (pathP L m) n

theorem belTo_zero (L : List Acc) (n : ByteArray) : belTo L n 0 = [] := by simp [belTo]
theorem belTo_all (L : List Acc) (n : ByteArray) : belTo L n L.length = belowP L n := by simp [belTo, belowP]
theorem belTo_len (L : List Acc) (n : ByteArray) (j : Nat) : (belTo L n j).length ≤ j := by
  unfold belTo
  refine Nat.le_trans (List.length_filter_le _ _) ?_
  rw [List.length_map, List.length_take]; omega
theorem belTo_yes {L : List Acc} {n : ByteArray} {j : Nat} (hj : j < L.length) (h : hasB (pathP L (accAt L j).1) n = true) : belTo L n (j + 1) = belTo L n j ++ [(accAt L j).1] := by
  unfold belTo
  rw [take_more hj, List.map_append, List.filter_append, accAt_eq hj, List.map_cons, List.map_nil, List.filter_cons_of_pos (p := fun m => hasB (pathP L m) n) h, List.filter_nil]
theorem belTo_no {L : List Acc} {n : ByteArray} {j : Nat} (hj : j < L.length) (h : hasB (pathP L (accAt L j).1) n = false) : belTo L n (j + 1) = belTo L n j := by
  unfold belTo
  rw [take_more hj, List.map_append, List.filter_append, accAt_eq hj, List.map_cons, List.map_nil, List.filter_cons_of_neg (p := fun m => hasB (pathP L m) n) (by rw [h]; simp), List.filter_nil, List.append_nil]

set_option maxRecDepth 100000 in
set_option maxHeartbeats 1000000 in
theorem below_ok (a : Option Addr) (k c : Nat) (L : List Acc) (n : ByteArray) (w : World) (hn : L.length = k) (hl : k ≤ 4611686018427387904) (hkc : k ≤ c) (hat : AAt w a L) (h : errP L n = 0) :
    Calls Try.prog 18 #[.slice a k c, .string n] w fun e w' => TTold (belowP L n) 0 w e w' := by
  obtain ⟨i9, hi9, z90, z91, z92⟩ := info_parts info9
  have k1 := placeof_any a k c L n w hn hl hkc hat
  have hR := (err_ok h).1
  have hk16 : k ≤ 16 := by rw [← hn]; exact (right_is.1 hR).2.1
  have k2 := fun m w2 (hb : Below w.heap.size w w2) => path24 a k c L m w2 hn (hat.below hb) hR
  rw [h] at k1
  replace h := hid h
  replace hn := hid hn
  replace hat := hid hat
  replace hR := hid hR
  generalize placeP L n = p at *
  go_enter Try.func18, Try.ntmps18
  go_wp2_with fail
  refine k1.mono ?_
  rintro e w1 ⟨rfl, hb1⟩
  go_wp2_with fail
  go_loopw [8, 22] (fun v i wr => ∃ j : Nat, j ≤ k ∧ i = .int .i64 (j : Int) ∧ Hid (TOwn wr w.heap.size v (belTo L n j)) ∧ Below w.heap.size w wr) (fun _ i _ => k - (intOf i).toNat)
  case atStart => exact ⟨0, Nat.zero_le _, rfl, hid (by rw [belTo_zero]; exact TOwn.nil _ _), hb1⟩
  case round =>
    obtain ⟨j, hj, rfl, hown, hb⟩ := hrel
    obtain ⟨va, vc, e, hvc⟩ := hown.out.form
    subst e
    by_cases hlt : j < k
    · have hjL : j < L.length := by rw [hn.out]; exact hlt
      obtain ⟨b, o, e⟩ := hat.out.place (by omega)
      subst e
      obtain ⟨x0, x1, x2⟩ := (hat.out.below hb).one hjL
      have hbl := belTo_len L n j
      have bl := below_lit wr (.cells #[.string (accAt L j).1, .string (accAt L j).2.1, .int .i64 (accAt L j).2.2] 45)
      have hcell : (wr.alloc (.cells #[.string (accAt L j).1, .string (accAt L j).2.1, .int .i64 (accAt L j).2.2] 45)).cell? ⟨wr.heap.size, 0, none⟩ = some (.string (accAt L j).1) := by
        obtain ⟨b, o, e, h⟩ := cat_lit wr 45 [.string (accAt L j).1, .string (accAt L j).2.1, .int .i64 (accAt L j).2.2] _ rfl (by simp)
        cases e
        exact h 0 (by simp)
      have B0 := bnext hb bl
      have hyes := fun h => belTo_yes (n := n) hjL h
      have hno := fun h => belTo_no (n := n) hjL h
      have kP := k2 (accAt L j).1 _ B0
      have hTm : (pathP L (accAt L j).1).length ≤ 4611686018427387904 := by have := path_len (right_name hR.out hjL); omega
      have hown0 := hid (hown.out.below bl)
      replace hown := hid hown
      replace hyes := hid hyes
      replace hno := hid hno
      generalize belTo L n j = D at *
      generalize pathP L (accAt L j).1 = T at *
      generalize accAt L j = X at *
      obtain ⟨X0, X1, X2⟩ := X
      dsimp only at *
      go_wp2_with fail
      refine kP.mono ?_
      rintro e w2 ⟨pa, pc, rfl, hpc, hpo, hb2⟩
      have B2 := bnext B0 hb2
      have kC := contains_any pa T.length pc T n w2 rfl hTm (hpo.tat)
      replace hpo := hid hpo
      have hcell2 := stay hb2 hcell
      have hown2 := hid (hown0.out.below hb2)
      cases hB : hasB T n
      · rw [hB] at kC
        have hse := hid (hno.out hB)
        replace hB := hid hB
        go_wp2_with fail
        refine kC.mono ?_
        rintro e w3 ⟨rfl, rfl⟩
        go_wp2_with fail
        go_roundw
        case rel => exact ⟨j + 1, by omega, by go_num, hid (by rw [hse.out]; exact hown2.out), B2⟩
        case measure => simp [intOf]; omega
      · rw [hB] at kC
        have hse := hid (hyes.out hB)
        replace hB := hid hB
        go_wp2_with fail
        refine kC.mono ?_
        rintro e w3 ⟨rfl, rfl⟩
        have bl3 := below_lit w3 (.cells #[.string X0] 9)
        have hown3 := hid (hown2.out.below bl3)
        have B3 := bnext B2 bl3
        have hcat := hid (cat_lit w3 9 [.string X0] #[.string X0] rfl)
        go_wp2_with (at_builtin; refine Hid.out ?_)
        refine wpList_cat _ rfl (.tmp 32) (.tmp 35) 32 rfl w.heap.size 9 i9 _ 1 16 Try.underlying32 hi9 z90 z91 z92 rfl (by omega) _ _ _ rfl hown3.out (some ⟨w3.heap.size, 0, none⟩) 1 1 [.string X0] rfl rfl hcat.out (one_S X0) (by unfold maxLen; omega) (by omega) B3.size ?_
        intro v' w4 ho4 hg4 hv4
        have hown4 : TOwn w4 w.heap.size v' (D ++ [X0]) := by
          unfold TOwn
          rw [List.map_append, List.length_append]
          exact ho4
        have B4 : Below w.heap.size w w4 := Below.grown B3 hg4 B3.size (fun j hj => (hown3.out.lt _ hj).1)
        replace hown4 := hid hown4
        clear ho4 hg4 hv4 hcat
        go_wp2_with fail
        go_roundw
        case rel => exact ⟨j + 1, by omega, by go_num, hid (by rw [hse.out]; exact hown4.out), B4⟩
        case measure => simp [intOf]; omega
    · have hje : j = k := by omega
      subst hje
      have hf := hid (belTo_all L n)
      rw [hn.out] at hf
      rw [hf.out] at hown hvc ⊢
      go_wp2
      go_ret2
      exact ⟨va, vc, rfl, hvc, hown.out, hb⟩

theorem below_any (a : Option Addr) (k c : Nat) (L : List Acc) (n : ByteArray) (w : World) (hn : L.length = k) (hl : k ≤ 4611686018427387904) (hkc : k ≤ c) (hat : AAt w a L) :
    Calls Try.prog 18 #[.slice a k c, .string n] w fun e w' => TTold (if errP L n = 0 then belowP L n else []) (errP L n) w e w' := by
  by_cases h : errP L n = 0
  · rw [if_pos h]
    have := below_ok a k c L n w hn hl hkc hat h
    rw [h]
    exact this
  · have k1 := placeof_any a k c L n w hn hl hkc hat
    rw [if_neg h]
    have h1 : (errP L n == 0) = false := by simpa using h
    replace hn := hid hn
    replace hat := hid hat
    generalize placeP L n = p at *
    generalize errP L n = E at *
    go_enter Try.func18, Try.ntmps18
    go_wp2_with fail
    refine k1.mono ?_
    rintro e w1 ⟨rfl, hb1⟩
    go_wp2
    go_ret2
    exact TTold.none hb1

/-- A list of accounts and an error, as an answer. -/
def ATold (M : List Acc) (E : Int) (w : World) (e : Ending) (w' : World) : Prop :=
  ∃ a c, e = .returned (.tuple #[.slice a M.length c, .int .i64 E]) ∧ M.length ≤ c ∧ AOwn w' w.heap.size (.slice a M.length c) M ∧ Below w.heap.size w w'

theorem ATold.none {E : Int} {w w' : World} (h : Below w.heap.size w w') : ATold [] E w (.returned (.tuple #[.slice Option.none 0 0, .int .i64 E])) w' := ⟨Option.none, 0, rfl, Nat.le_refl _, AOwn.nil _ _, h⟩

/-- The list with that limit of the account of that name. -/
def limP (L : List Acc) (n : ByteArray) (x : Int) : List Acc :=
  match fi L n with
  | none => L
  | some i => L.set i ((accAt L i).1, (accAt L i).2.1, x)

def lerrP (L : List Acc) (n : ByteArray) (x : Int) : Int := if limB x = true then errP L n else 2

theorem lim_len (L : List Acc) (n : ByteArray) (x : Int) : (limP L n x).length = L.length := by
  unfold limP; split <;> simp

end Go.Proofs.Ytilncacmkfohdaa
