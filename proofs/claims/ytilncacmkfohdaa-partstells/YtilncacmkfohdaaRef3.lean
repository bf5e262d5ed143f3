/- The document's Path, Below and Limit; CopyAccounts, SameAccounts. -/
import Derived.Test.YtilncacmkfohdaaRef2
namespace Go.Proofs.Ytilncacmkfohdaa
open Go.RowKit

theorem own_one (w : World) (n : ByteArray) : TOwn (w.alloc (.cells #[.string n] 9)) w.heap.size (.slice (some ⟨w.heap.size, 0, none⟩) 1 1) [n] :=
  ⟨rfl, .inr ⟨w.heap.size, 1, #[.string n], rfl, Nat.le_refl _, heap_alloc_new _ _, Nat.le_refl _, by unfold maxLen; omega, rfl, rfl⟩⟩

/-- A parent that is named is there. -/
theorem right_find {L : List Acc} (hR : rightB L = true) {i : Nat} (hi : i < L.length) (h : ¬ (accAt L i).2.1 = ByteArray.empty) : ∃ j, fi L (accAt L i).2.1 = some j ∧ j < i := by
  cases e : fi L (accAt L i).2.1 with
  | none => exact absurd (right_root hR hi e) h
  | some j => exact ⟨j, rfl, right_up hR hi e⟩

theorem empty_no {s : ByteArray} (h : ¬ s = ByteArray.empty) : ¬ s.toList = [] := by
  have := text_ne h
  simpa using this
theorem empty_is {s : ByteArray} (h : s = ByteArray.empty) : s.toList = [] := by
  have := text_eq h
  simpa using this

set_option maxRecDepth 100000 in
set_option maxHeartbeats 1000000 in
theorem rpath_ok (a : Option Addr) (k c : Nat) (L : List Acc) (n : ByteArray) (w : World) (hn : L.length = k) (hl : k ≤ 4611686018427387904) (hkc : k ≤ c) (hsz : Sized L) (hat : AAt w a L) (h : errP L n = 0) :
    Calls Try.prog 49 #[.slice a k c, .string n] w fun e w' => TTold (pathP L n) 0 w e w' := by
  obtain ⟨i9, hi9, z90, z91, z92⟩ := info_parts info9
  obtain ⟨hR, i0, hi0⟩ := err_ok h
  have hk16 : k ≤ 16 := by rw [← hn]; exact (right_is.1 hR).2.1
  have k1 := rright_any a k c L w hn hl hkc hsz hat
  rw [hR] at k1
  have kF := fun m w2 (h : Below w.heap.size w w2) => rfind_any a k c L m w2 hn hl (hat.below h)
  have k0 := fun w2 h => kF n w2 h
  rw [hi0] at k0
  simp only [FRet] at k0
  have hlt0 : i0 < k := by rw [← hn]; exact fi_lt hi0
  replace hn := hid hn
  replace hat := hid hat
  replace hR := hid hR
  replace hsz := hid hsz
  replace h := hid h
  replace hi0 := hid hi0
  go_enter Try.func49, Try.ntmps49
  go_wp2_with fail
  refine k1.mono ?_
  rintro e w1 ⟨rfl, hb1⟩
  go_wp2_with fail
  refine (k0 _ hb1).mono ?_
  rintro e w2 ⟨rfl, rfl⟩
  have bl := below_lit w2 (.cells #[.string n] 9)
  have B2 := bnext hb1 bl
  have hstart := hid ((own_one w2 n).low hb1.size)
  clear k0
  go_wp2_with fail
  go_loopw [6, 8] (fun x v wr => ∃ (D : List ByteArray) (i : Nat), x = .int .i64 (i : Int) ∧ i < k ∧ Hid (TOwn wr w.heap.size v D ∧ pathP L n = D ++ pathP L (accAt L i).2.1 ∧ D.length + i ≤ k) ∧ Below w.heap.size w wr) (fun x _ _ => (intOf x).toNat)
  case atStart => exact ⟨[n], i0, rfl, hlt0, hid ⟨hstart.out, path_step hR.out hi0.out, by simp; omega⟩, B2⟩
  case round =>
    obtain ⟨D, i, rfl, hik, hin, hb⟩ := hrel
    obtain ⟨hown, hp, hDi⟩ := hin.out
    clear hin
    have hiL : i < L.length := by rw [hn.out]; exact hik
    obtain ⟨b, o, e⟩ := hat.out.place (by omega)
    subst e
    obtain ⟨x0, x1, x2⟩ := (hat.out.below hb).one hiL
    obtain ⟨va, vc, e, hvc⟩ := hown.form
    subst e
    by_cases hE : (accAt L i).2.1 = ByteArray.empty
    · have hee : (accAt L i).2.1.toList.isEmpty = true := by rw [empty_is hE]; rfl
      rw [hE, path_no (right_no_empty hR.out), List.append_nil] at hp
      replace hp := hid hp
      replace hown := hid hown
      replace hE := hid hE
      generalize accAt L i = X at *
      obtain ⟨X0, X1, X2⟩ := X
      dsimp only at *
      go_wp2
      go_ret2
      rw [hp.out]
      exact ⟨va, vc, rfl, hvc, hown.out, hb⟩
    · have hee : (accAt L i).2.1.toList.isEmpty = false := by simpa using empty_no hE
      obtain ⟨j, hj, hji⟩ := right_find hR.out hiL hE
      have hjk : j < k := by omega
      have hjL := fi_lt hj
      have kJ := kF (accAt L i).2.1 _ hb
      rw [hj] at kJ
      simp only [FRet] at kJ
      obtain ⟨y0, y1, y2⟩ := (hat.out.below hb).one hjL
      have hnm := fi_name hj
      have hp2 := hp
      rw [path_step hR.out hj] at hp2
      rw [hnm] at y0
      have bl3 := below_lit wr (.cells #[.string (accAt L i).2.1] 9)
      have B3 := bnext hb bl3
      have hown3 := hid (hown.below bl3)
      have hcat := hid (cat_lit wr 9 [.string (accAt L i).2.1] #[.string (accAt L i).2.1] rfl)
      replace hp := hid hp
      replace hp2 := hid hp2
      replace hown := hid hown
      replace hE := hid hE
      replace hj := hid hj
      replace hnm := hid hnm
      clear y1 y2
      generalize accAt L i = X at *
      obtain ⟨X0, X1, X2⟩ := X
      dsimp only at *
      go_wp2_with fail
      refine kJ.mono ?_
      rintro e w3 ⟨rfl, rfl⟩
      go_wp2_with (at_builtin; refine Hid.out ?_)
      refine wpList_cat _ rfl (.tmp 38) (.tmp 44) 32 rfl w.heap.size 9 i9 _ 1 16 Try.underlying32 hi9 z90 z91 z92 rfl (by omega) _ _ _ rfl hown3.out (some ⟨w3.heap.size, 0, none⟩) 1 1 [.string X1] rfl rfl hcat.out (one_S X1) (by unfold maxLen; omega) (by omega) B3.size ?_
      intro v' w4 ho4 hg4 hv4
      have hown4 : TOwn w4 w.heap.size v' (D ++ [X1]) := by
        unfold TOwn
        rw [List.map_append, List.length_append]
        exact ho4
      have B4 : Below w.heap.size w w4 := Below.grown B3 hg4 B3.size (fun j hj => (hown3.out.lt _ hj).1)
      replace hown4 := hid hown4
      clear ho4 hg4 hv4 hcat
      go_wp2_with fail
      go_roundw
      case rel => exact ⟨D ++ [X1], j, rfl, hjk, hid ⟨hown4.out, by rw [hp2.out]; simp, by simp; omega⟩, B4⟩
      case measure => simp [intOf]; omega

theorem rpath_any (a : Option Addr) (k c : Nat) (L : List Acc) (n : ByteArray) (w : World) (hn : L.length = k) (hl : k ≤ 4611686018427387904) (hkc : k ≤ c) (hsz : Sized L) (hat : AAt w a L) :
    Calls Try.prog 49 #[.slice a k c, .string n] w fun e w' => TTold (if errP L n = 0 then pathP L n else []) (errP L n) w e w' := by
  by_cases h : errP L n = 0
  · rw [if_pos h]
    have := rpath_ok a k c L n w hn hl hkc hsz hat h
    rw [h]
    exact this
  · rw [if_neg h]
    have k1 := rright_any a k c L w hn hl hkc hsz hat
    have k2 := fun w2 (h : Below w.heap.size w w2) => rfind_any a k c L n w2 hn hl (hat.below h)
    cases hR : rightB L with
    | false =>
      rw [hR] at k1
      rw [err_arg hR]
      replace hn := hid hn
      replace hat := hid hat
      replace hR := hid hR
      replace hsz := hid hsz
      clear h
      go_enter Try.func49, Try.ntmps49
      go_wp2_with fail
      refine k1.mono ?_
      rintro e w1 ⟨rfl, hb1⟩
      go_wp2
      go_ret2
      exact TTold.none hb1
    | true =>
      rw [hR] at k1
      cases hi : fi L n with
      | some i => exact absurd (err_of hR hi) h
      | none =>
        rw [hi] at k2
        rw [err_no hR hi]
        simp only [FRet] at k2
        replace hn := hid hn
        replace hat := hid hat
        replace hR := hid hR
        replace hi := hid hi
        replace hsz := hid hsz
        clear h
        go_enter Try.func49, Try.ntmps49
        go_wp2_with fail
        refine k1.mono ?_
        rintro e w1 ⟨rfl, hb1⟩
        go_wp2_with fail
        refine (k2 _ hb1).mono ?_
        rintro e w2 ⟨rfl, rfl⟩
        go_wp2
        go_ret2
        exact TTold.none hb1

end Go.Proofs.Ytilncacmkfohdaa
