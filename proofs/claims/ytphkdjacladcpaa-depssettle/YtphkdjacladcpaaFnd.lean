/- Find, on both sides. -/
import Derived.Test.YtphkdjacladcpaaJs
import Derived.Test.YtphkdjacladcpaaUse
namespace Go.Proofs.Ytphkdjacladcpaa
open Go.RowKit
set_option linter.unusedVariables false
set_option linter.unusedSimpArgs false

def NoTo (L : List Job) (id : Int) (j : Nat) : Prop := ∀ i, i < j → ¬ (jobAt L i).id = id
def FI (L : List Job) (id : Int) (i : Int) (ok : Bool) : Prop := (ok = true ∧ ∃ k : Nat, i = (k : Int) ∧ k < L.length ∧ (jobAt L k).id = id ∧ NoTo L id k) ∨ (ok = false ∧ i = 0 ∧ NoTo L id L.length)
theorem FI.uniq {L : List Job} {id i i' : Int} {ok ok' : Bool} (h : FI L id i ok) (h' : FI L id i' ok') : i' = i ∧ ok' = ok := by
  rcases h with ⟨rfl, k, rfl, hk, he, hn⟩ | ⟨rfl, rfl, hn⟩
  · rcases h' with ⟨rfl, k', rfl, hk', he', hn'⟩ | ⟨rfl, rfl, hn'⟩
    · rcases Nat.lt_trichotomy k k' with h | h | h
      · exact absurd he (hn' k h)
      · subst h; exact ⟨rfl, rfl⟩
      · exact absurd he' (hn k' h)
    · exact absurd he (hn' k hk)
  · rcases h' with ⟨rfl, k', rfl, hk', he', hn'⟩ | ⟨rfl, rfl, hn'⟩
    · exact absurd he' (hn k' hk')
    · exact ⟨rfl, rfl⟩
theorem NoTo.next {L : List Job} {id : Int} {j : Nat} (h : NoTo L id j) (h2 : ¬ (jobAt L j).id = id) : NoTo L id (j + 1) := fun i hi => by
  rcases Nat.lt_or_ge i j with h3 | h3
  · exact h i h3
  · obtain rfl : i = j := by omega
    exact h2

theorem is34 (J : Job) (id : Int) (g : Nat) (w : World) (hg : w.cell? ⟨g, 0, none⟩ = some (.int .i64 id)) : Calls Try.prog 50 #[.agg (jc J).toArray, ptr g] w fun e w' => e = .returned (.bool (decide (J.id = id))) ∧ Below w.heap.size w w' := by
  have bl := below_lit w (.cells (jc J).toArray 42)
  have v0 := lit_cell w 42 (jc J).toArray 0 (.int .i64 J.id) rfl
  have hlt := World.block_lt_of_cell? _ _ hg
  have hg2 := stay bl hg
  go_enter Try.func50, Try.ntmps50
  go_wp2
  go_ret
  exact ⟨ret_bool (by rw [Bool.eq_iff_iff]; simp only [beq_iff_eq, decide_eq_true_eq]), bl⟩

set_option maxRecDepth 100000 in
set_option maxHeartbeats 1000000 in
theorem index_any (a : Option Addr) (k c g : Nat) (L : List Job) (id : Int) (w : World) (hn : L.length = k) (hl : k ≤ 4611686018427387904) (hat : JAt w a L) (hg : w.cell? ⟨g, 0, none⟩ = some (.int .i64 id)) :
    Calls Try.prog 49 #[.slice a k c, .func (.func 50) #[] #[ptr g]] w fun e w' => (∃ i : Int, e = .returned (.int .i64 i) ∧ ((∃ m : Nat, i = (m : Int) ∧ m < k ∧ (jobAt L m).id = id ∧ NoTo L id m) ∨ (i = -1 ∧ NoTo L id k))) ∧ Below w.heap.size w w' := by
  replace hn := hid hn
  replace hat := hid hat
  replace hg := hid hg
  go_enter Try.func49, Try.ntmps49
  go_wp2_with fail
  go_loopw [8] (fun i wr => ∃ j : Nat, j ≤ k ∧ i = .int .i64 (j : Int) ∧ Hid (NoTo L id j) ∧ Below w.heap.size w wr) (fun i _ => k - (intOf i).toNat)
  case atStart => exact ⟨0, Nat.zero_le _, rfl, hid (fun i h => by omega), Below.refl _ _⟩
  case round =>
    obtain ⟨j, hj, rfl, hok, hb⟩ := hrel
    by_cases hlt : j < k
    · have hjL : j < L.length := by rw [hn.out]; exact hlt
      obtain ⟨b, o, e⟩ := hat.out.place (by omega)
      subst e
      have hcj := hid ((hat.out.below hb).range hjL)
      have kS := is34 (jobAt L j) id g wr (stay hb hg.out)
      have hnx := fun h => NoTo.next (j := j) hok.out h
      by_cases he : (jobAt L j).id = id
      · rw [decide_eq_true he] at kS
        replace he := hid he
        replace hnx := hid hnx
        obtain ⟨J, hJ⟩ : ∃ J, J = jobAt L j := ⟨_, rfl⟩
        rw [← hJ] at kS hcj
        replace hJ := hid hJ
        go_wp2_with (refine wpList_load_mid rfl 42 (.tmp 14) rfl b (o + j * 17) rfl (jc J) _ hcj.out Try.underlying42 rfl (by kernel_rfl) ?_)
        refine kS.mono ?_
        rintro e w1 ⟨rfl, hb1⟩
        go_wp2
        go_ret
        exact ⟨⟨(j : Int), rfl, .inl ⟨j, rfl, hlt, he.out, hok.out⟩⟩, bnext hb hb1⟩
      · rw [decide_eq_false he] at kS
        have hnx2 := hid (hnx he)
        replace he := hid he
        replace hnx := hid hnx
        obtain ⟨J, hJ⟩ : ∃ J, J = jobAt L j := ⟨_, rfl⟩
        rw [← hJ] at kS hcj
        replace hJ := hid hJ
        go_wp2_with (refine wpList_load_mid rfl 42 (.tmp 14) rfl b (o + j * 17) rfl (jc J) _ hcj.out Try.underlying42 rfl (by kernel_rfl) ?_)
        refine kS.mono ?_
        rintro e w1 ⟨rfl, hb1⟩
        go_wp2_with fail
        go_roundw
        case rel => exact ⟨j + 1, by omega, by go_num, hnx2, bnext hb hb1⟩
        case measure => simp [intOf]; omega
    · have hje : j = k := by omega
      subst hje
      go_wp2
      go_ret
      exact ⟨⟨-1, rfl, .inr ⟨rfl, hok.out⟩⟩, hb⟩

def FT (L : List Job) (id : Int) (e : Ending) : Prop := ∃ (i : Int) (ok : Bool), e = .returned (.tuple #[.int .i64 i, .bool ok]) ∧ FI L id i ok
set_option maxRecDepth 100000 in
theorem find_any (a : Option Addr) (k c : Nat) (L : List Job) (id : Int) (w : World) (hn : L.length = k) (hl : k ≤ 4611686018427387904) (hat : JAt w a L) :
    Calls Try.prog 41 #[.slice a k c, .int .i64 id] w fun e w' => FT L id e ∧ Below w.heap.size w w' := by
  have bl := below_lit w (.cells #[.int .i64 id] 3)
  have hc : (w.alloc (.cells #[.int .i64 id] 3)).cell? ⟨w.heap.size, 0, none⟩ = some (.int .i64 id) := cell_new _ _ _
  have kF := index_any a k c w.heap.size L id _ hn hl (hat.below bl) hc
  replace hn := hid hn
  replace hat := hid hat
  replace hc := hid hc
  go_enter Try.func41, Try.ntmps41
  go_wp2_with fail
  refine kF.mono ?_
  rintro e w1 ⟨⟨i, rfl, h⟩, hb1⟩
  have B1 := bnext bl hb1
  rcases h with ⟨m, rfl, hm, hid2, hno⟩ | ⟨rfl, hno⟩
  · replace hid2 := hid hid2
    replace hno := hid hno
    have d : decide ((m : Int) < 0) = false := decide_eq_false (by omega)
    go_wp2
    go_ret2
    exact ⟨⟨(m : Int), true, rfl, .inl ⟨rfl, m, rfl, by rw [hn.out]; exact hm, hid2.out, hno.out⟩⟩, B1⟩
  · replace hno := hid hno
    go_wp2
    go_ret2
    exact ⟨⟨0, false, rfl, .inr ⟨rfl, rfl, by rw [hn.out]; exact hno.out⟩⟩, B1⟩

set_option maxRecDepth 100000 in
set_option maxHeartbeats 1000000 in
theorem rfind_any (a : Option Addr) (k c : Nat) (L : List Job) (id : Int) (w : World) (hn : L.length = k) (hl : k ≤ 4611686018427387904) (hat : JAt w a L) :
    Calls Try.prog 42 #[.slice a k c, .int .i64 id] w fun e w' => FT L id e ∧ Below w.heap.size w w' := by
  replace hn := hid hn
  replace hat := hid hat
  go_enter Try.func42, Try.ntmps42
  go_wp2_with fail
  go_loopw [6] (fun i wr => ∃ j : Nat, j ≤ k ∧ i = .int .i64 (j : Int) ∧ Hid (NoTo L id j) ∧ Below w.heap.size w wr) (fun i _ => k - (intOf i).toNat)
  case atStart => exact ⟨0, Nat.zero_le _, rfl, hid (fun i h => by omega), Below.refl _ _⟩
  case round =>
    obtain ⟨j, hj, rfl, hok, hb⟩ := hrel
    by_cases hlt : j < k
    · have hjL : j < L.length := by rw [hn.out]; exact hlt
      obtain ⟨b, o, e⟩ := hat.out.place (by omega)
      subst e
      have x0 := (hat.out.below hb).cell hjL 0 (by omega)
      replace x0 : wr.cell? ⟨b, o + j * 17, none⟩ = some (.int .i64 (jobAt L j).id) := x0
      have hnx := fun h => NoTo.next (j := j) hok.out h
      by_cases he : (jobAt L j).id = id
      · have d : ((jobAt L j).id == id) = true := by simpa using he
        have hf := hid (show FI L id (j : Int) true from .inl ⟨rfl, j, rfl, hjL, he, hok.out⟩)
        replace he := hid he
        replace hnx := hid hnx
        generalize (jobAt L j).id = X at *
        go_wp2
        go_ret2
        exact ⟨⟨(j : Int), true, rfl, hf.out⟩, hb⟩
      · have d : ((jobAt L j).id == id) = false := by simpa using he
        have hnx2 := hid (hnx he)
        replace he := hid he
        replace hnx := hid hnx
        generalize (jobAt L j).id = X at *
        go_wp2_with fail
        go_roundw
        case rel => exact ⟨j + 1, by omega, by go_num, hnx2, hb⟩
        case measure => simp [intOf]; omega
    · have hje : j = k := by omega
      subst hje
      go_wp2
      go_ret2
      exact ⟨⟨0, false, rfl, .inr ⟨rfl, rfl, by rw [hn.out]; exact hok.out⟩⟩, hb⟩

end Go.Proofs.Ytphkdjacladcpaa
