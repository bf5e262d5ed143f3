/- Parse, whatever the text. -/
import Derived.Test.YtebdlcgegdobkaaDoorParse
namespace Go.Proofs.YtebdlcgegdobkaaDoor
open Go.RowKit

theorem fold_none (ps : List (List UInt8)) : ps.foldl readStep none = none := by
  induction ps with
  | nil => rfl
  | cons p t ih => exact ih

def moreLen : Value → Value → Nat
  | .string s, .bool true => s.size + 1
  | _, _ => 0

theorem runV_lt (l : List UInt8) : (runV l).1 < 4294967296 := by
  rw [runV_eq]
  split
  · exact mask_lt _ _
  · decide

theorem step_bad {l : List UInt8} {S : Nat} {rest : List UInt8} (h : readP l = (pieces rest).foldl readStep (some S)) (hb : (runV (cutB 44 rest).1).2 = false) : readP l = none := by
  have hr : runOfP (cutB 44 rest).1 = none := by
    unfold runV at hb
    cases e : runOfP (cutB 44 rest).1 with
    | none => rfl
    | some x => rw [e] at hb; cases hb
  have hs : readStep (some S) (cutB 44 rest).1 = none := by simp [readStep, hr]
  rw [h, pieces_cut]
  split
  · rw [List.foldl_cons, hs, fold_none]
  · rw [List.foldl_cons, hs]; rfl

theorem step_good {l : List UInt8} {S : Nat} {rest : List UInt8} (h : readP l = (pieces rest).foldl readStep (some S)) (hb : (runV (cutB 44 rest).1).2 = true) :
    readP l = if (cutB 44 rest).2.2 then (pieces (cutB 44 rest).2.1).foldl readStep (some (S ||| (runV (cutB 44 rest).1).1)) else some (S ||| (runV (cutB 44 rest).1).1) := by
  have hr : runOfP (cutB 44 rest).1 = some (runV (cutB 44 rest).1).1 := by
    unfold runV at hb ⊢
    cases e : runOfP (cutB 44 rest).1 with
    | none => rw [e] at hb; cases hb
    | some x => rfl
  have hs : readStep (some S) (cutB 44 rest).1 = some (S ||| (runV (cutB 44 rest).1).1) := by simp [readStep, hr]
  rw [h, pieces_cut]
  split
  · rename_i h2; rw [List.foldl_cons, hs]
  · rename_i h2; rw [List.foldl_cons, hs]; rfl

theorem parse_bad {l : List UInt8} (h : l ≠ none4) (hr : readP l = none) : parseP l = (0, 100) := by
  unfold parseP; rw [if_neg h, hr]

theorem parse_some {l : List UInt8} {S : Nat} (h : l ≠ none4) (hr : readP l = some S) : parseP l = if pr S = l then (S, 0) else (0, 100) := by
  unfold parseP; rw [if_neg h, hr]

theorem or_lt2 {a b : Nat} (ha : a < 4294967296) (hb : b < 4294967296) : a ||| b < 4294967296 := Nat.or_lt_two_pow (n := 32) (by simpa using ha) (by simpa using hb)

set_option maxHeartbeats 1600000 in
theorem parse_any (l : List UInt8) (hl : l.length ≤ 9223372036854775807) (w : World) :
    Calls Tryd.prog 19 #[Str l] w fun e w' => e = .returned (.tuple #[.int .u32 ((parseP l).1 : Int), .int .i64 (parseP l).2]) ∧ Below w.heap.size w w' := by
  by_cases h4 : l = none4
  · subst h4
    go_enter Tryd.func19, Tryd.ntmps19
    show Code.wp _ _ _ ⟨#[.string ⟨#[110, 111, 110, 101]⟩, _, _, _, _, _, _, _, _, _, _, _, _, _, _, _, _, _, _, _, _, _, _, _, _, _, _, _, _, _, _, _, _, _, _], _⟩ _
    go_wp2
    go_ret2
    exact ⟨rfl, Below.refl _ _⟩
  · obtain ⟨s, hs⟩ : ∃ s : ByteArray, s = ⟨l.toArray⟩ := ⟨_, rfl⟩
    have hS : Str l = .string s := by rw [hs]; rfl
    have hdl : s.toList = l := by rw [Lib.toList_data, hs]
    have hne : (s.toList == [110, 111, 110, 101]) = false := by rw [hdl]; simpa [none4] using h4
    have hne2 : ([110, 111, 110, 101] == s.toList) = false := by rw [hdl]; simpa [none4] using fun e => h4 e.symm
    rw [hS]
    have hs' := hid hs
    have hS' := hid hS
    clear hs hS
    replace hdl := hid hdl
    replace h4 := hid h4
    go_enter Tryd.func19, Tryd.ntmps19
    go_wp2_with fail
    go_loopw [4, 5, 6] (fun v r m wr => ∃ (S : Nat) (rest : List UInt8) (mo : Bool), S < 4294967296 ∧ rest.length ≤ l.length ∧ v = .int .u32 (S : Int) ∧ r = Str rest ∧ m = .bool mo ∧ Hid (readP l = if mo then (pieces rest).foldl readStep (some S) else some S) ∧ Below w.heap.size w wr) (fun _ r m _ => moreLen r m)
    case atStart => exact ⟨0, l, true, by omega, Nat.le_refl _, rfl, hS'.out.symm, rfl, hid rfl, Below.refl _ _⟩
    case round =>
      obtain ⟨S, rest, mo, hS32, hrl, rfl, rfl, rfl, hre, hb⟩ := hrel
      cases mo
      · have hre2 : readP l = some S := by simpa using hre.out
        have hfin := hid (parse_some h4.out hre2)
        clear hre
        replace hre2 := hid hre2
        go_wp2_with fail
        refine (print_any S hS32 _).mono ?_
        rintro e w1 ⟨rfl, hb1⟩
        have B1 := bnext hb hb1
        by_cases hp : pr S = l
        · have hpS : Str (pr S) = .string s := by rw [hp]; exact hS'.out
          have hfin2 := hid (hfin.out.trans (if_pos hp))
          rw [hpS]
          go_wp2
          go_ret2
          rw [hfin2.out]
          exact ⟨rfl, B1⟩
        · have hfin2 := hid (hfin.out.trans (if_neg hp))
          obtain ⟨p, hpS⟩ : ∃ p : ByteArray, Str (pr S) = .string p := ⟨_, rfl⟩
          have hpl : p.toList = pr S := by
            have e : p = ⟨(pr S).toArray⟩ := by unfold Str at hpS; cases hpS; rfl
            rw [Lib.toList_data, e]
          have hne3 : (p.toList == s.toList) = false := by rw [hpl, hdl.out]; simpa using hp
          rw [hpS]
          replace hpS := hid hpS
          replace hpl := hid hpl
          replace hp := hid hp
          go_wp2
          go_ret2
          rw [hfin2.out]
          exact ⟨rfl, B1⟩
      · have hre2 : readP l = (pieces rest).foldl readStep (some S) := by simpa using hre.out
        have hlen := cut_len 44 rest
        have hc := fun w => cut1_any 44 rest (by omega) w
        have hr := fun w => run_any (cutB 44 rest).1 (by omega) w
        have hlt := runV_lt (cutB 44 rest).1
        have hor := or_nat S (runV (cutB 44 rest).1).1 hS32 hlt
        have hlt2 := or_lt2 hS32 hlt
        cases hok : (runV (cutB 44 rest).1).2
        · have hfin := hid (parse_bad h4.out (step_bad hre2 hok))
          clear hre
          replace hre2 := hid hre2
          rw [hok] at hr
          go_wp2_with fail
          refine (hc _).mono ?_
          rintro e w1 ⟨rfl, hb1⟩
          go_wp2_with fail
          refine (hr _).mono ?_
          rintro e w2 ⟨rfl, hb2⟩
          go_wp2
          go_ret2
          rw [hfin.out]
          exact ⟨rfl, bnext (bnext hb hb1) hb2⟩
        · have hnext := hid (step_good hre2 hok)
          clear hre
          replace hre2 := hid hre2
          rw [hok] at hr
          replace hok := hid hok
          generalize hx : (runV (cutB 44 rest).1).1 = x at *
          replace hx := hid hx
          go_wp2_with fail
          refine (hc _).mono ?_
          rintro e w1 ⟨rfl, hb1⟩
          go_wp2_with fail
          refine (hr _).mono ?_
          rintro e w2 ⟨rfl, hb2⟩
          go_wp2_with fail
          go_roundw
          case rel => exact ⟨S ||| x, _, _, hlt2, by omega, by rfl, rfl, rfl, hnext, bnext (bnext hb hb1) hb2⟩
          case measure =>
            have hq := hlen.2.2
            unfold Str
            cases e : (cutB 44 rest).2.2
            · simp [moreLen]
            · have := hq e
              simp [moreLen, ByteArray.size]
              exact this

end Go.Proofs.YtebdlcgegdobkaaDoor
