/- The document's Right; copies and comparisons of lists of accounts. -/
import Derived.Test.YtflapjehkgefdaaGreatRef
namespace Go.Proofs.YtflapjehkgefdaaGreat
open Go.RowKit

/-- All names are as long as texts can be. -/
def Sized (L : List Acc) : Prop := ∀ x ∈ L, x.1.size ≤ 9223372036854775807

theorem Sized.at {L : List Acc} (h : Sized L) {i : Nat} (hi : i < L.length) : (accAt L i).1.size ≤ 9223372036854775807 := by
  rw [← accAt_eq hi]; exact h _ (List.getElem_mem hi)

theorem right_all {L : List Acc} (h : FitTo L L.length) : rightB L = decide (1 ≤ L.length ∧ L.length ≤ 16) := by
  unfold rightB
  apply decide_eq_decide.2
  constructor
  · exact fun h1 => ⟨h1.1, h1.2.1⟩
  · exact fun h1 => ⟨h1.1, h1.2, h⟩

theorem none_not {α : Type} (r : Option α) : r.isNone = !r.isSome := by cases r <;> rfl

theorem FRet_form (r : Option Nat) : ∃ vi : Int, FRet r = .returned (.tuple #[.int .i64 vi, .bool r.isSome]) := by
  cases r with
  | none => exact ⟨0, rfl⟩
  | some i => exact ⟨i, rfl⟩

theorem lim_lo {x : Int} (h : x < -1) : limB x = false := decide_eq_false fun h1 => by omega
theorem lim_hi {x : Int} (h : 1073741824 < x) : limB x = false := decide_eq_false fun h1 => by omega
theorem lim_in {x : Int} (h : ¬ x < -1) (h2 : ¬ 1073741824 < x) : limB x = true := decide_eq_true (by omega)

set_option maxRecDepth 100000 in
set_option maxHeartbeats 2000000 in
theorem rright_any (a : Option Addr) (k c : Nat) (L : List Acc) (w : World) (hn : L.length = k) (hl : k ≤ 4611686018427387904) (hkc : k ≤ c) (hsz : Sized L) (hat : AAt w a L) :
    Calls Tryz.prog 63 #[.slice a k c] w fun e w' => e = .returned (.bool (rightB L)) ∧ Below w.heap.size w w' := by
  replace hn := hid hn
  replace hat := hid hat
  replace hsz := hid hsz
  go_enter Tryz.func63, Tryz.ntmps63
  go_wp2_with fail
  go_loopw [3] (fun i wr => ∃ j : Nat, j ≤ k ∧ i = .int .i64 (j : Int) ∧ Hid (FitTo L j) ∧ Below w.heap.size w wr) (fun i _ => k - (intOf i).toNat)
  case atStart => exact ⟨0, Nat.zero_le _, rfl, hid (fun i hi => by omega), Below.refl _ _⟩
  case round =>
    obtain ⟨j, hj, rfl, hok, hb⟩ := hrel
    by_cases hlt : j < k
    · have hjL : j < L.length := by rw [hn.out]; exact hlt
      obtain ⟨b, o, e⟩ := hat.out.place (by omega)
      subst e
      obtain ⟨x0, x1, x2⟩ := (hat.out.below hb).one hjL
      have bl := below_lit wr (.cells #[.string (accAt L j).1, .string (accAt L j).2.1, .int .i64 (accAt L j).2.2] 80)
      have hc0 : ¬ c = 0 := by omega
      have hjc : (j : Int) ≤ (c : Int) := by omega
      have hjk : (j : Int) ≤ (k : Int) := by omega
      have B0 := bnext hb bl
      obtain ⟨v1, e1⟩ := FRet_form (fi (L.take j) (accAt L j).1)
      obtain ⟨v2, e2⟩ := FRet_form (fi (L.take j) (accAt L j).2.1)
      have kF : ∀ q, Calls Tryz.prog 66 #[.slice (some ⟨b, o, none⟩) j c, .string (accAt L j).1] ((wr.alloc (.cells #[.string (accAt L j).1, .string (accAt L j).2.1, .int .i64 (accAt L j).2.2] 80)).drewN q) fun e w' => e = .returned (.tuple #[.int .i64 v1, .bool (fi (L.take j) (accAt L j).1).isSome]) ∧ w' = (wr.alloc (.cells #[.string (accAt L j).1, .string (accAt L j).2.1, .int .i64 (accAt L j).2.2] 80)).drewN q := fun q => by
        rw [← e1]; exact rfind_any (some ⟨b, o, none⟩) j c (L.take j) (accAt L j).1 _ (by rw [List.length_take]; omega) (by omega) ((hat.out.below (below_drewN B0 q)).take j)
      have kG : ∀ (W1 : World) (_ : Below w.heap.size w W1) q', Calls Tryz.prog 66 #[.slice (some ⟨b, o, none⟩) j c, .string (accAt L j).2.1] (W1.drewN q') fun e w' => e = .returned (.tuple #[.int .i64 v2, .bool (fi (L.take j) (accAt L j).2.1).isSome]) ∧ w' = W1.drewN q' := fun W1 hW1 q' => by
        rw [← e2]; exact rfind_any (some ⟨b, o, none⟩) j c (L.take j) (accAt L j).2.1 _ (by rw [List.length_take]; omega) (by omega) ((hat.out.below (below_drewN hW1 q')).take j)
      have kN := fun w => rname_any (accAt L j).1 (hsz.out.at hjL) w
      have hdef : fitsB (L.take j) (accAt L j) = ((fi (L.take j) (accAt L j).1).isNone && (nameB (accAt L j).1 && ((fi (L.take j) (accAt L j).2.1).isSome || decide ((accAt L j).2.1 = ByteArray.empty)) && limB (accAt L j).2.2)) := rfl
      have hbad := fun h => right_bad (L := L) hjL h
      have hgood : fitsB (L.take j) (accAt L j) = true → FitTo L (j + 1) := fun h i hi => by
        rcases Nat.lt_or_ge i j with h1 | h1
        · exact hok.out i h1
        · obtain rfl : i = j := by omega
          exact h
      rw [hdef] at hbad hgood
      rw [none_not] at hbad hgood
      clear hdef e1 e2
      replace hok := hid hok
      generalize (fi (L.take j) (accAt L j).1).isSome = R1 at *
      generalize (fi (L.take j) (accAt L j).2.1).isSome = R2 at *
      generalize nameB (accAt L j).1 = BN at *
      have hy : (accAt L j).2.1 = ByteArray.empty ∨ ¬ (accAt L j).2.1 = ByteArray.empty := Classical.em _
      have hye : (accAt L j).2.1 = ByteArray.empty → (accAt L j).2.1.toList = [] := fun h => by
        have := text_eq h
        simpa using this
      have hyn : ¬ (accAt L j).2.1 = ByteArray.empty → ¬ (accAt L j).2.1.toList = [] := fun h => by
        have := text_ne h
        simpa using this
      replace hy : ((accAt L j).2.1.toList = [] ∧ decide ((accAt L j).2.1 = ByteArray.empty) = true) ∨ (¬ (accAt L j).2.1.toList = [] ∧ decide ((accAt L j).2.1 = ByteArray.empty) = false) := by
        rcases hy with h | h
        · exact .inl ⟨hye h, decide_eq_true h⟩
        · exact .inr ⟨hyn h, decide_eq_false h⟩
      generalize decide ((accAt L j).2.1 = ByteArray.empty) = Y at *
      clear hye hyn
      generalize accAt L j = X at *
      obtain ⟨X0, X1, X2⟩ := X
      dsimp only at *
      have hl1 := fun h => lim_lo (x := X2) h
      have hl2 := fun h => lim_hi (x := X2) h
      have hl3 := fun h h2 => lim_in (x := X2) h h2
      generalize limB X2 = BL at *
      replace hbad := hid hbad
      replace hgood := hid hgood
      replace hl1 := hid hl1
      replace hl2 := hid hl2
      replace hl3 := hid hl3
      replace hy := hid hy
      go_wp2_with fail
      go_quiet (first | (go_at_call 66; exact Calls.quiet_of_same (kF _)))
      have B1 := below_drewN B0 nq
      obtain ⟨gb, go', ge, gc⟩ := cat_lit wr 80 [.string X0, .string X1, .int .i64 X2] #[.string X0, .string X1, .int .i64 X2] rfl (by simp)
      cases ge
      have c0 := stay (below_drewN (Below.refl _ _) nq) (gc 0 (by simp))
      have c1 := stay (below_drewN (Below.refl _ _) nq) (gc 1 (by simp))
      have c2 := stay (below_drewN (Below.refl _ _) nq) (gc 2 (by simp))
      replace c0 : ((wr.alloc (.cells #[.string X0, .string X1, .int .i64 X2] 80)).drewN nq).cell? ⟨wr.heap.size, 0, none⟩ = some (.string X0) := c0
      replace c1 : ((wr.alloc (.cells #[.string X0, .string X1, .int .i64 X2] 80)).drewN nq).cell? ⟨wr.heap.size, 1, none⟩ = some (.string X1) := c1
      replace c2 : ((wr.alloc (.cells #[.string X0, .string X1, .int .i64 X2] 80)).drewN nq).cell? ⟨wr.heap.size, 2, none⟩ = some (.int .i64 X2) := c2
      clear gc kF x0 x1 x2 bl B0
      generalize (wr.alloc (.cells #[.string X0, .string X1, .int .i64 X2] 80)).drewN nq = W1 at *
      replace kG := kG W1 B1
      go_wp2_with fail
      go_quiet (first | (go_at_call 66; exact Calls.quiet_of_same (kG _)))
      have B2 := below_drewN B1 nq
      have d0 := stay (below_drewN (Below.refl _ _) nq) c0
      have d1 := stay (below_drewN (Below.refl _ _) nq) c1
      have d2 := stay (below_drewN (Below.refl _ _) nq) c2
      clear c0 c1 c2 kG B1
      generalize W1.drewN nq = W2 at *
      cases BN with
      | false =>
        have hf := hid (hbad.out (by simp))
        go_wp2_with fail
        refine (kN _).mono ?_
        rintro e w3 ⟨rfl, rfl⟩
        go_wp2
        go_ret
        rw [hf.out]; exact ⟨rfl, B2⟩
      | true =>
        cases R1 with
        | true =>
          have hf := hid (hbad.out (by simp))
          go_wp2_with fail
          refine (kN _).mono ?_
          rintro e w3 ⟨rfl, rfl⟩
          go_wp2
          go_ret
          rw [hf.out]; exact ⟨rfl, B2⟩
        | false =>
          rcases hy.out with ⟨hy1, hy2⟩ | ⟨hy1, hy2⟩
          · subst hy2
            by_cases h1 : X2 < -1
            · have hb3 := hl1.out h1
              have g1 : decide (X2 < -1) = true := by simpa using h1
              have hf := hid (hbad.out (by rw [hb3]; simp))
              go_wp2_with fail
              refine (kN _).mono ?_
              rintro e w3 ⟨rfl, rfl⟩
              go_wp2
              go_ret
              rw [hf.out]; exact ⟨rfl, B2⟩
            have g1 : decide (X2 < -1) = false := by simpa using h1
            by_cases h2 : 1073741824 < X2
            · have hb3 := hl2.out h2
              have g2 : decide (1073741824 < X2) = true := by simpa using h2
              have hf := hid (hbad.out (by rw [hb3]; simp))
              go_wp2_with fail
              refine (kN _).mono ?_
              rintro e w3 ⟨rfl, rfl⟩
              go_wp2
              go_ret
              rw [hf.out]; exact ⟨rfl, B2⟩
            have g2 : decide (1073741824 < X2) = false := by simpa using h2
            have hb3 := hl3.out (by omega) (by omega)
            have hok2 := hid (hgood.out (by rw [hb3]; simp))
            replace hb3 := hid hb3
            go_wp2_with fail
            refine (kN _).mono ?_
            rintro e w3 ⟨rfl, rfl⟩
            go_wp2_with fail
            go_roundw
            case rel => exact ⟨j + 1, by omega, by go_num, hok2, B2⟩
            case measure => simp [intOf]; omega
          · subst hy2
            cases R2 with
            | false =>
              have hf := hid (hbad.out (by simp))
              go_wp2_with fail
              refine (kN _).mono ?_
              rintro e w3 ⟨rfl, rfl⟩
              go_wp2
              go_ret
              rw [hf.out]; exact ⟨rfl, B2⟩
            | true =>
              by_cases h1 : X2 < -1
              · have hb3 := hl1.out h1
                have g1 : decide (X2 < -1) = true := by simpa using h1
                have hf := hid (hbad.out (by rw [hb3]; simp))
                go_wp2_with fail
                refine (kN _).mono ?_
                rintro e w3 ⟨rfl, rfl⟩
                go_wp2
                go_ret
                rw [hf.out]; exact ⟨rfl, B2⟩
              have g1 : decide (X2 < -1) = false := by simpa using h1
              by_cases h2 : 1073741824 < X2
              · have hb3 := hl2.out h2
                have g2 : decide (1073741824 < X2) = true := by simpa using h2
                have hf := hid (hbad.out (by rw [hb3]; simp))
                go_wp2_with fail
                refine (kN _).mono ?_
                rintro e w3 ⟨rfl, rfl⟩
                go_wp2
                go_ret
                rw [hf.out]; exact ⟨rfl, B2⟩
              have g2 : decide (1073741824 < X2) = false := by simpa using h2
              have hb3 := hl3.out (by omega) (by omega)
              have hok2 := hid (hgood.out (by rw [hb3]; simp))
              replace hb3 := hid hb3
              go_wp2_with fail
              refine (kN _).mono ?_
              rintro e w3 ⟨rfl, rfl⟩
              go_wp2_with fail
              go_roundw
              case rel => exact ⟨j + 1, by omega, by go_num, hok2, B2⟩
              case measure => simp [intOf]; omega
    · have hje : j = k := by omega
      have hall : FitTo L L.length := by rw [hn.out, ← hje]; exact hok.out
      have hf := right_all hall
      rw [hn.out] at hf
      replace hok := hid hok
      replace hall := hid hall
      replace hf := hid hf
      by_cases h1 : 1 ≤ k
      · have d1 : decide ((1 : Int) ≤ (k : Int)) = true := by simp; omega
        by_cases h2 : k ≤ 16
        · have d2 : decide ((k : Int) ≤ 16) = true := by simp; omega
          go_wp2
          go_ret
          rw [hf.out, decide_eq_true (And.intro h1 h2)]; exact ⟨rfl, hb⟩
        · have d2 : decide ((k : Int) ≤ 16) = false := by simp; omega
          go_wp2
          go_ret
          rw [hf.out, decide_eq_false (fun h => h2 h.2)]; exact ⟨rfl, hb⟩
      · have d1 : decide ((1 : Int) ≤ (k : Int)) = false := by simp; omega
        go_wp2
        go_ret
        rw [hf.out, decide_eq_false (fun h => h1 h.1)]; exact ⟨rfl, hb⟩

end Go.Proofs.YtflapjehkgefdaaGreat
