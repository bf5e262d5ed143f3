/- The document's Find, Name and Right. -/
import Derived.Test.YtflapjehkgefdaaGreatBelow
namespace Go.Proofs.YtflapjehkgefdaaGreat
open Go.RowKit

set_option maxRecDepth 100000 in
theorem rfind_any (a : Option Addr) (k c : Nat) (L : List Acc) (n : ByteArray) (w : World) (hn : L.length = k) (hl : k ≤ 4611686018427387904) (hat : AAt w a L) :
    Calls Tryz.prog 66 #[.slice a k c, .string n] w fun e w' => e = FRet (fi L n) ∧ w' = w := by
  replace hn := hid hn
  replace hat := hid hat
  go_enter Tryz.func66, Tryz.ntmps66
  go_wp2_with fail
  go_loopw [6] (fun i wr => ∃ j : Nat, j ≤ k ∧ i = .int .i64 (j : Int) ∧ Hid (NoneTo L n j) ∧ wr = w) (fun i _ => k - (intOf i).toNat)
  case atStart => exact ⟨0, Nat.zero_le _, rfl, hid (fun i hi => by omega), rfl⟩
  case round =>
    obtain ⟨j, hj, rfl, hok, rfl⟩ := hrel
    by_cases hlt : j < k
    · have hjL : j < L.length := by rw [hn.out]; exact hlt
      obtain ⟨b, o, e⟩ := hat.out.place (by omega)
      subst e
      obtain ⟨x0, x1, x2⟩ := hat.out.one hjL
      by_cases hB : (accAt L j).1 = n
      · have hf := hid ((fi_is L n j).2 ⟨hjL, hB, hok.out⟩)
        have he := text_eq hB
        replace hB := hid hB
        replace hok := hid hok
        generalize accAt L j = X at *
        obtain ⟨X0, X1, X2⟩ := X
        dsimp only at *
        go_wp2
        go_ret2
        rw [hf.out]
        exact ⟨rfl, rfl⟩
      · have hok2 : Hid (NoneTo L n (j + 1)) := hid fun i hi => by
          rcases Nat.lt_or_ge i j with h | h
          · exact hok.out i h
          · obtain rfl : i = j := by omega
            exact hB
        have he := text_ne hB
        replace hB := hid hB
        replace hok := hid hok
        generalize accAt L j = X at *
        obtain ⟨X0, X1, X2⟩ := X
        dsimp only at *
        go_wp2_with fail
        go_roundw
        case rel => exact ⟨j + 1, by omega, by go_num, hok2, trivial⟩
        case measure => simp [intOf]; omega
    · have hje : j = k := by omega
      subst hje
      have hf := hid ((fi_no L n).2 (by rw [hn.out]; exact hok.out))
      go_wp2
      go_ret2
      rw [hf.out]
      exact ⟨rfl, rfl⟩

theorem OkTo.next {s : ByteArray} {j : Nat} (h : OkTo s j) (hj : okAt s j = true) : OkTo s (j + 1) := fun i hi => by
  rcases Nat.lt_or_ge i j with h1 | h1
  · exact h i h1
  · obtain rfl : i = j := by omega
    exact hj

theorem get_bang {s : ByteArray} {j : Nat} (hj : j < s.size) : s[j] = s.get! j := by
  cases s with
  | mk d =>
    have h2 : j < d.size := hj
    show d[j] = d[j]!
    simp [h2]

set_option maxRecDepth 100000 in
set_option maxHeartbeats 1000000 in
theorem rname_any (s : ByteArray) (hs : s.size ≤ 9223372036854775807) (w : World) : Calls Tryz.prog 44 #[.string s] w fun e w' => e = .returned (.bool (nameB s)) ∧ w' = w := by
  go_enter Tryz.func44, Tryz.ntmps44
  go_wp2_with fail
  go_loopw [3] (fun i wr => ∃ j : Nat, j ≤ s.size ∧ i = .int .i64 (j : Int) ∧ Hid (OkTo s j) ∧ wr = w) (fun i _ => s.size - (intOf i).toNat)
  case atStart => exact ⟨0, Nat.zero_le _, rfl, hid (fun i hi => by omega), rfl⟩
  case round =>
    obtain ⟨j, hj, rfl, hok, rfl⟩ := hrel
    by_cases hlt : j < s.size
    · have hgb := hid (get_bang hlt)
      by_cases p1 : 97 ≤ (s.get! j).toNat
      · have p1_ : decide ((97 : Int) ≤ ((s[j]).toNat : Int)) = true := by rw [hgb.out]; simp; omega
        by_cases p2 : (s.get! j).toNat ≤ 122
        · have p2_ : decide (((s[j]).toNat : Int) ≤ 122) = true := by rw [hgb.out]; simp; omega
          have hok2 := hid (hok.out.next (j := j) (by
            unfold okAt letB othB
            simp only [Bool.or_eq_true, Bool.and_eq_true, decide_eq_true_eq]
            omega))
          replace hok := hid hok
          go_wp2_with fail
          go_roundw
          case rel => exact ⟨j + 1, by omega, by go_num, hok2, trivial⟩
          case measure => simp [intOf]; omega
        · have p2_ : decide (((s[j]).toNat : Int) ≤ 122) = false := by rw [hgb.out]; simp; omega
          by_cases z : j = 0
          · have z_ : ((j : Int) == 0) = true := by simp; omega
            have hf := hid (name_bad (s := s) hlt (by
              unfold okAt letB othB
              rw [Bool.eq_false_iff]
              simp only [ne_eq, Bool.or_eq_true, Bool.and_eq_true, decide_eq_true_eq]
              omega))
            replace hok := hid hok
            clear z_
            subst z
            go_wp2
            go_ret
            rw [hf.out]; exact ⟨rfl, rfl⟩
          · have z_ : ((j : Int) == 0) = false := by simp; omega
            by_cases q1 : 48 ≤ (s.get! j).toNat
            · have q1_ : decide ((48 : Int) ≤ ((s[j]).toNat : Int)) = true := by rw [hgb.out]; simp; omega
              by_cases q2 : (s.get! j).toNat ≤ 57
              · have q2_ : decide (((s[j]).toNat : Int) ≤ 57) = true := by rw [hgb.out]; simp; omega
                have hok2 := hid (hok.out.next (j := j) (by
                  unfold okAt letB othB
                  simp only [Bool.or_eq_true, Bool.and_eq_true, decide_eq_true_eq]
                  omega))
                replace hok := hid hok
                go_wp2_with fail
                go_roundw
                case rel => exact ⟨j + 1, by omega, by go_num, hok2, trivial⟩
                case measure => simp [intOf]; omega
              · have q2_ : decide (((s[j]).toNat : Int) ≤ 57) = false := by rw [hgb.out]; simp; omega
                by_cases m1 : (s.get! j).toNat = 45
                · have m1_ : (((s[j]).toNat : Int) == 45) = true := by rw [hgb.out]; simp; omega
                  have hok2 := hid (hok.out.next (j := j) (by
                    unfold okAt letB othB
                    simp only [Bool.or_eq_true, Bool.and_eq_true, decide_eq_true_eq]
                    omega))
                  replace hok := hid hok
                  go_wp2_with fail
                  go_roundw
                  case rel => exact ⟨j + 1, by omega, by go_num, hok2, trivial⟩
                  case measure => simp [intOf]; omega
                · have m1_ : (((s[j]).toNat : Int) == 45) = false := by rw [hgb.out]; simp; omega
                  by_cases m2 : (s.get! j).toNat = 95
                  · have m2_ : (((s[j]).toNat : Int) == 95) = true := by rw [hgb.out]; simp; omega
                    have hok2 := hid (hok.out.next (j := j) (by
                      unfold okAt letB othB
                      simp only [Bool.or_eq_true, Bool.and_eq_true, decide_eq_true_eq]
                      omega))
                    replace hok := hid hok
                    go_wp2_with fail
                    go_roundw
                    case rel => exact ⟨j + 1, by omega, by go_num, hok2, trivial⟩
                    case measure => simp [intOf]; omega
                  · have m2_ : (((s[j]).toNat : Int) == 95) = false := by rw [hgb.out]; simp; omega
                    have hf := hid (name_bad (s := s) hlt (by
                      unfold okAt letB othB
                      rw [Bool.eq_false_iff]
                      simp only [ne_eq, Bool.or_eq_true, Bool.and_eq_true, decide_eq_true_eq]
                      omega))
                    replace hok := hid hok
                    go_wp2
                    go_ret
                    rw [hf.out]; exact ⟨rfl, rfl⟩
            · have q1_ : decide ((48 : Int) ≤ ((s[j]).toNat : Int)) = false := by rw [hgb.out]; simp; omega
              by_cases m1 : (s.get! j).toNat = 45
              · have m1_ : (((s[j]).toNat : Int) == 45) = true := by rw [hgb.out]; simp; omega
                have hok2 := hid (hok.out.next (j := j) (by
                  unfold okAt letB othB
                  simp only [Bool.or_eq_true, Bool.and_eq_true, decide_eq_true_eq]
                  omega))
                replace hok := hid hok
                go_wp2_with fail
                go_roundw
                case rel => exact ⟨j + 1, by omega, by go_num, hok2, trivial⟩
                case measure => simp [intOf]; omega
              · have m1_ : (((s[j]).toNat : Int) == 45) = false := by rw [hgb.out]; simp; omega
                by_cases m2 : (s.get! j).toNat = 95
                · have m2_ : (((s[j]).toNat : Int) == 95) = true := by rw [hgb.out]; simp; omega
                  have hok2 := hid (hok.out.next (j := j) (by
                    unfold okAt letB othB
                    simp only [Bool.or_eq_true, Bool.and_eq_true, decide_eq_true_eq]
                    omega))
                  replace hok := hid hok
                  go_wp2_with fail
                  go_roundw
                  case rel => exact ⟨j + 1, by omega, by go_num, hok2, trivial⟩
                  case measure => simp [intOf]; omega
                · have m2_ : (((s[j]).toNat : Int) == 95) = false := by rw [hgb.out]; simp; omega
                  have hf := hid (name_bad (s := s) hlt (by
                    unfold okAt letB othB
                    rw [Bool.eq_false_iff]
                    simp only [ne_eq, Bool.or_eq_true, Bool.and_eq_true, decide_eq_true_eq]
                    omega))
                  replace hok := hid hok
                  go_wp2
                  go_ret
                  rw [hf.out]; exact ⟨rfl, rfl⟩
      · have p1_ : decide ((97 : Int) ≤ ((s[j]).toNat : Int)) = false := by rw [hgb.out]; simp; omega
        by_cases z : j = 0
        · have z_ : ((j : Int) == 0) = true := by simp; omega
          have hf := hid (name_bad (s := s) hlt (by
            unfold okAt letB othB
            rw [Bool.eq_false_iff]
            simp only [ne_eq, Bool.or_eq_true, Bool.and_eq_true, decide_eq_true_eq]
            omega))
          replace hok := hid hok
          clear z_
          subst z
          go_wp2
          go_ret
          rw [hf.out]; exact ⟨rfl, rfl⟩
        · have z_ : ((j : Int) == 0) = false := by simp; omega
          by_cases q1 : 48 ≤ (s.get! j).toNat
          · have q1_ : decide ((48 : Int) ≤ ((s[j]).toNat : Int)) = true := by rw [hgb.out]; simp; omega
            by_cases q2 : (s.get! j).toNat ≤ 57
            · have q2_ : decide (((s[j]).toNat : Int) ≤ 57) = true := by rw [hgb.out]; simp; omega
              have hok2 := hid (hok.out.next (j := j) (by
                unfold okAt letB othB
                simp only [Bool.or_eq_true, Bool.and_eq_true, decide_eq_true_eq]
                omega))
              replace hok := hid hok
              go_wp2_with fail
              go_roundw
              case rel => exact ⟨j + 1, by omega, by go_num, hok2, trivial⟩
              case measure => simp [intOf]; omega
            · have q2_ : decide (((s[j]).toNat : Int) ≤ 57) = false := by rw [hgb.out]; simp; omega
              by_cases m1 : (s.get! j).toNat = 45
              · have m1_ : (((s[j]).toNat : Int) == 45) = true := by rw [hgb.out]; simp; omega
                have hok2 := hid (hok.out.next (j := j) (by
                  unfold okAt letB othB
                  simp only [Bool.or_eq_true, Bool.and_eq_true, decide_eq_true_eq]
                  omega))
                replace hok := hid hok
                go_wp2_with fail
                go_roundw
                case rel => exact ⟨j + 1, by omega, by go_num, hok2, trivial⟩
                case measure => simp [intOf]; omega
              · have m1_ : (((s[j]).toNat : Int) == 45) = false := by rw [hgb.out]; simp; omega
                by_cases m2 : (s.get! j).toNat = 95
                · have m2_ : (((s[j]).toNat : Int) == 95) = true := by rw [hgb.out]; simp; omega
                  have hok2 := hid (hok.out.next (j := j) (by
                    unfold okAt letB othB
                    simp only [Bool.or_eq_true, Bool.and_eq_true, decide_eq_true_eq]
                    omega))
                  replace hok := hid hok
                  go_wp2_with fail
                  go_roundw
                  case rel => exact ⟨j + 1, by omega, by go_num, hok2, trivial⟩
                  case measure => simp [intOf]; omega
                · have m2_ : (((s[j]).toNat : Int) == 95) = false := by rw [hgb.out]; simp; omega
                  have hf := hid (name_bad (s := s) hlt (by
                    unfold okAt letB othB
                    rw [Bool.eq_false_iff]
                    simp only [ne_eq, Bool.or_eq_true, Bool.and_eq_true, decide_eq_true_eq]
                    omega))
                  replace hok := hid hok
                  go_wp2
                  go_ret
                  rw [hf.out]; exact ⟨rfl, rfl⟩
          · have q1_ : decide ((48 : Int) ≤ ((s[j]).toNat : Int)) = false := by rw [hgb.out]; simp; omega
            by_cases m1 : (s.get! j).toNat = 45
            · have m1_ : (((s[j]).toNat : Int) == 45) = true := by rw [hgb.out]; simp; omega
              have hok2 := hid (hok.out.next (j := j) (by
                unfold okAt letB othB
                simp only [Bool.or_eq_true, Bool.and_eq_true, decide_eq_true_eq]
                omega))
              replace hok := hid hok
              go_wp2_with fail
              go_roundw
              case rel => exact ⟨j + 1, by omega, by go_num, hok2, trivial⟩
              case measure => simp [intOf]; omega
            · have m1_ : (((s[j]).toNat : Int) == 45) = false := by rw [hgb.out]; simp; omega
              by_cases m2 : (s.get! j).toNat = 95
              · have m2_ : (((s[j]).toNat : Int) == 95) = true := by rw [hgb.out]; simp; omega
                have hok2 := hid (hok.out.next (j := j) (by
                  unfold okAt letB othB
                  simp only [Bool.or_eq_true, Bool.and_eq_true, decide_eq_true_eq]
                  omega))
                replace hok := hid hok
                go_wp2_with fail
                go_roundw
                case rel => exact ⟨j + 1, by omega, by go_num, hok2, trivial⟩
                case measure => simp [intOf]; omega
              · have m2_ : (((s[j]).toNat : Int) == 95) = false := by rw [hgb.out]; simp; omega
                have hf := hid (name_bad (s := s) hlt (by
                  unfold okAt letB othB
                  rw [Bool.eq_false_iff]
                  simp only [ne_eq, Bool.or_eq_true, Bool.and_eq_true, decide_eq_true_eq]
                  omega))
                replace hok := hid hok
                go_wp2
                go_ret
                rw [hf.out]; exact ⟨rfl, rfl⟩
    · have hje : j = s.size := by omega
      have hall : OkTo s s.size := by rw [← hje]; exact hok.out
      replace hok := hid hok
      by_cases h1 : 1 ≤ s.size
      · have d1 : decide ((1 : Int) ≤ (s.size : Int)) = true := by simp; omega
        by_cases h2 : s.size ≤ 16
        · have d2 : decide ((s.size : Int) ≤ 16) = true := by simp; omega
          have hf := hid (name_good h1 h2 hall)
          go_wp2
          go_ret
          rw [hf.out]; exact ⟨rfl, rfl⟩
        · have d2 : decide ((s.size : Int) ≤ 16) = false := by simp; omega
          have hf := hid (name_no (s := s) (by omega))
          go_wp2
          go_ret
          rw [hf.out]; exact ⟨rfl, rfl⟩
      · have d1 : decide ((1 : Int) ≤ (s.size : Int)) = false := by simp; omega
        have hf := hid (name_no (s := s) (by omega))
        go_wp2
        go_ret
        rw [hf.out]; exact ⟨rfl, rfl⟩

end Go.Proofs.YtflapjehkgefdaaGreat
