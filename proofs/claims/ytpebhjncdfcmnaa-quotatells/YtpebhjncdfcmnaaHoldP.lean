/- Jobs that start only where they may: sums of cores in plain numbers, what stays within its limits. -/
import Derived.Test.YtpebhjncdfcmnaaMay
namespace Go.Proofs.Ytpebhjncdfcmnaa
open Go.RowKit

/-- Numbers of which something is promised. -/
def Tame (s : Spc) : Prop := 1 ≤ s.nodes ∧ s.nodes ≤ 64 ∧ 1 ≤ s.cores ∧ s.cores ≤ 64

theorem tame_cor {s : Spc} (h : Tame s) : ∃ n : Nat, cor s = (n : Int) ∧ 1 ≤ n ∧ n ≤ 4096 := by
  obtain ⟨h1, h2, h3, h4⟩ := h
  obtain ⟨a, ha⟩ : ∃ a : Nat, s.nodes = (a : Int) := ⟨s.nodes.toNat, by omega⟩
  obtain ⟨b, hb⟩ : ∃ b : Nat, s.cores = (b : Int) := ⟨s.cores.toNat, by omega⟩
  have ha1 : 1 ≤ a := by omega
  have ha2 : a ≤ 64 := by omega
  have hb1 : 1 ≤ b := by omega
  have hb2 : b ≤ 64 := by omega
  have hm : a * b ≤ 64 * 64 := Nat.mul_le_mul ha2 hb2
  have hp : 1 * 1 ≤ a * b := Nat.mul_le_mul ha1 hb1
  refine ⟨a * b, ?_, by omega, by omega⟩
  unfold cor
  rw [ha, hb, ← Int.natCast_mul]
  unfold wrap64
  omega

def coN (s : Spc) : Nat := (cor s).toNat
theorem coN_eq {s : Spc} (h : Tame s) : cor s = (coN s : Int) ∧ coN s ≤ 4096 := by
  obtain ⟨n, h1, h2, h3⟩ := tame_cor h
  unfold coN
  rw [h1]
  exact ⟨by simp, by simpa using h3⟩

def hit (p : Spc → Bool) (j : Job) : Bool := decide (j.st = 2) && p j.s
/-- The cores of all jobs that count. -/
def tot (p : Spc → Bool) : List Job → Nat
  | [] => 0
  | j :: r => (if hit p j = true then coN j.s else 0) + tot p r
/-- How many count. -/
def num (p : Spc → Bool) : List Job → Nat
  | [] => 0
  | j :: r => (if hit p j = true then 1 else 0) + num p r

theorem hit_is {p : Spc → Bool} {j : Job} : hit p j = true ↔ j.st = 2 ∧ p j.s = true := by unfold hit; rw [Bool.and_eq_true, decide_eq_true_eq]

theorem cnt_fold (p : Spc → Bool) : ∀ (L : List Job) (x y : Nat), (∀ j ∈ L, Tame j.s) → x + 4096 * L.length ≤ 4611686018427387904 → L.foldl (cst p) ((x : Int), y) = (((x + tot p L : Nat) : Int), y + num p L)
  | [], x, y, _, _ => by simp [tot, num]
  | j :: r, x, y, hT, hl => by
    rw [List.length_cons] at hl
    obtain ⟨hc, hc2⟩ := coN_eq (hT j List.mem_cons_self)
    rw [List.foldl_cons]
    by_cases h : hit p j = true
    · obtain ⟨h1, h2⟩ := hit_is.1 h
      have e : cst p ((x : Int), y) j = (((x + coN j.s : Nat) : Int), y + 1) := by
        rw [cst_yes h1 h2]
        simp only []
        rw [hc]
        congr 1
        unfold wrap64
        omega
      rw [e, cnt_fold p r (x + coN j.s) (y + 1) (fun q hq => hT q (List.mem_cons_of_mem _ hq)) (by omega)]
      simp only [tot, num, if_pos h]
      congr 1
      · congr 1; omega
      · omega
    · have e : cst p ((x : Int), y) j = ((x : Int), y) := cst_no (fun hh => h (hit_is.2 hh))
      rw [e, cnt_fold p r x y (fun q hq => hT q (List.mem_cons_of_mem _ hq)) (by omega)]
      simp only [tot, num, if_neg h, Nat.zero_add]

theorem cnt_tot (p : Spc → Bool) {L : List Job} (hT : ∀ j ∈ L, Tame j.s) (hl : L.length ≤ 1048576) : cntP p L = ((tot p L : Int), num p L) := by
  have := cnt_fold p L 0 0 hT (by omega)
  unfold cntP
  rw [show ((0 : Int), 0) = (((0 : Nat) : Int), 0) from rfl, this]
  simp

theorem tot_append (p : Spc → Bool) : ∀ (A B : List Job), tot p (A ++ B) = tot p A + tot p B
  | [], B => by simp [tot]
  | j :: r, B => by simp only [List.cons_append, tot, tot_append p r B]; omega
theorem num_append (p : Spc → Bool) : ∀ (A B : List Job), num p (A ++ B) = num p A + num p B
  | [], B => by simp [num]
  | j :: r, B => by simp only [List.cons_append, num, num_append p r B]; omega
theorem tot_mono {p q : Spc → Bool} (h : ∀ s, p s = true → q s = true) : ∀ (L : List Job), tot p L ≤ tot q L
  | [] => Nat.le_refl _
  | j :: r => by
    have ih := tot_mono h r
    simp only [tot]
    by_cases h1 : hit p j = true
    · have h2 : hit q j = true := hit_is.2 ⟨(hit_is.1 h1).1, h _ (hit_is.1 h1).2⟩
      rw [if_pos h1, if_pos h2]; omega
    · rw [if_neg h1]; omega
theorem tot_le {p : Spc → Bool} : ∀ (L : List Job), (∀ j ∈ L, Tame j.s) → tot p L ≤ 4096 * L.length
  | [], _ => by simp [tot]
  | j :: r, hT => by
    have ih := tot_le (p := p) r (fun q hq => hT q (List.mem_cons_of_mem _ hq))
    have hc := (coN_eq (hT j List.mem_cons_self)).2
    simp only [tot, List.length_cons]
    split <;> omega

/-- A job that is over. -/
def Job.over (j : Job) : Job := ⟨j.id, j.arr, j.idx, j.s, 3, j.sub, j.beg, j.fin, j.on, j.exit⟩
theorem hit_over (p : Spc → Bool) (j : Job) : hit p j.over = false := by
  unfold hit Job.over
  simp
theorem tot_over (p : Spc → Bool) : ∀ (L : List Job) (i : Nat) (h : i < L.length), tot p (L.set i L[i].over) ≤ tot p L
  | [], i, h => by simp at h
  | j :: r, 0, h => by
    simp only [List.set_cons_zero, List.getElem_cons_zero, tot, hit_over]
    rw [if_neg (by simp)]; omega
  | j :: r, i + 1, h => by
    have := tot_over p r i (by simpa using h)
    simp only [List.set_cons_succ, List.getElem_cons_succ, tot]; omega
theorem num_over (p : Spc → Bool) : ∀ (L : List Job) (i : Nat) (h : i < L.length), num p (L.set i L[i].over) ≤ num p L
  | [], i, h => by simp at h
  | j :: r, 0, h => by
    simp only [List.set_cons_zero, List.getElem_cons_zero, num, hit_over]
    rw [if_neg (by simp)]; omega
  | j :: r, i + 1, h => by
    have := num_over p r i (by simpa using h)
    simp only [List.set_cons_succ, List.getElem_cons_succ, num]; omega

/-- Nobody is above a limit. -/
structure Within (A : List Acc) (Q : List Qu) (L : List Job) : Prop where
  acc : ∀ i, i < A.length → 0 ≤ (accAt A i).2.2 → (tot (onP A (accAt A i).1) L : Int) ≤ (accAt A i).2.2
  cors : ∀ i, i < Q.length → 0 ≤ (quAt Q i).2.2.1 → (tot (inP (quAt Q i).1) L : Int) ≤ (quAt Q i).2.2.1
  jobs : ∀ i, i < Q.length → 0 ≤ (quAt Q i).2.2.2 → (num (inP (quAt Q i).1) L : Int) ≤ (quAt Q i).2.2.2

theorem Within.nil (A : List Acc) (Q : List Qu) : Within A Q [] := ⟨fun i _ h => by simpa [tot] using h, fun i _ h => by simpa [tot] using h, fun i _ h => by simpa [num] using h⟩

theorem Within.over {A : List Acc} {Q : List Qu} {L : List Job} (h : Within A Q L) {i : Nat} (hi : i < L.length) : Within A Q (L.set i L[i].over) :=
  ⟨fun k hk h0 => by have h1 := h.acc k hk h0; have h2 := tot_over (onP A (accAt A k).1) L i hi; omega,
   fun k hk h0 => by have h1 := h.cors k hk h0; have h2 := tot_over (inP (quAt Q k).1) L i hi; omega,
   fun k hk h0 => by have h1 := h.jobs k hk h0; have h2 := num_over (inP (quAt Q k).1) L i hi; omega⟩

/-- A job that has just started. -/
def runJ (s : Spc) : Job := ⟨0, 0, 0, s, 2, 0, 0, 0, 0, 0⟩
theorem tot_run (p : Spc → Bool) (L : List Job) (s : Spc) : tot p (L ++ [runJ s]) = tot p L + (if p s = true then coN s else 0) := by
  rw [tot_append]
  simp only [tot, hit, runJ, decide_true, Bool.true_and, Nat.add_zero]
theorem num_run (p : Spc → Bool) (L : List Job) (s : Spc) : num p (L ++ [runJ s]) = num p L + (if p s = true then 1 else 0) := by
  rw [num_append]
  simp only [num, hit, runJ, decide_true, Bool.true_and, Nat.add_zero]

/-- Who lies below an account is one of the accounts, and has it on its path. -/
theorem below_is {A : List Acc} {n m : ByteArray} : m ∈ belowP A n ↔ n ∈ pathP A m := by
  constructor
  · intro h
    unfold belowP at h
    exact has_is.1 (List.mem_filter.1 h).2
  · intro h
    cases hf : fi A m with
    | none => rw [path_no hf] at h; cases h
    | some i => exact (below_mem hf).2 h

theorem on_is {A : List Acc} {n : ByteArray} {s : Spc} : onP A n s = true ↔ n ∈ pathP A s.acct := by
  unfold onP
  rw [has_is, below_is]

/-- What stands on the path of one that stands on a path. -/
theorem path_trans {A : List Acc} (hR : rightB A = true) (i : Nat) : ∀ m b n, fi A m = some i → b ∈ pathP A m → n ∈ pathP A b → n ∈ pathP A m := by
  induction i using Nat.strongRecOn with
  | _ i ih =>
    intro m b n h hb hn
    rw [path_step hR h] at hb
    rcases List.mem_cons.1 hb with rfl | hb
    · exact hn
    · cases e : fi A (accAt A i).2.1 with
      | none => rw [path_no e] at hb; cases hb
      | some j =>
        have hj := right_up hR (fi_lt h) e
        rw [path_step hR h]
        exact List.mem_cons_of_mem _ (ih j hj _ b n e hb hn)

theorem on_up {A : List Acc} (hR : rightB A = true) {n b : ByteArray} (h : b ∈ belowP A n) (s : Spc) (hs : onP A b s = true) : onP A n s = true := by
  rw [below_is] at h
  rw [on_is] at hs ⊢
  cases hf : fi A s.acct with
  | none => rw [path_no hf] at hs; cases hs
  | some i => exact path_trans hR i s.acct b n hf hs h

theorem any_no {L : List Bd} (h : L.any pasB = false) {x : Bd} (hx : x ∈ L) : 0 ≤ x.1 → x.2 ≤ x.1 := by
  intro h0
  have h1 := List.any_eq_false.1 h x hx
  unfold pasB at h1
  simp only [Bool.and_eq_true, decide_eq_true_eq, not_and, Int.not_lt] at h1
  exact h1 (by omega)

theorem may_ok {A : List Acc} {Q : List Qu} {L : List Job} {s : Spc} (hR : confB A Q = true) (h : mayP A Q L s = 0) : ∃ i, qi Q s.qos = some i ∧ ((pathP A s.acct).map (abd A L s)).any pasB = false ∧ (qbd (quAt Q i) L s).any pasB = false := by
  unfold mayP at h
  rw [if_pos hR] at h
  cases hf : fi A s.acct with
  | none => rw [hf] at h; simp at h
  | some i0 =>
    cases hq : qi Q s.qos with
    | none => rw [hf, hq] at h; simp at h
    | some i =>
      rw [hf, hq] at h
      simp only at h
      refine ⟨i, rfl, ?_⟩
      split at h
      · omega
      · rename_i hn
        simpa using hn
theorem may_is {A : List Acc} {Q : List Qu} {L : List Job} {s : Spc} (hR : confB A Q = true) : mayP A Q L s = 0 ∨ mayP A Q L s = 150 ∨ mayP A Q L s = 141 := by
  unfold mayP
  rw [if_pos hR]
  split
  · split
    · exact .inr (.inl rfl)
    · exact .inl rfl
  · exact .inr (.inr rfl)

theorem Within.run {A : List Acc} {Q : List Qu} {L : List Job} {s : Spc} (h : Within A Q L) (hR : confB A Q = true) (hT : ∀ j ∈ L, Tame j.s) (hl : L.length ≤ 1048576) (hs : Tame s) (hm : mayP A Q L s = 0) : Within A Q (L ++ [runJ s]) := by
  obtain ⟨hRA, hRQ⟩ := conf_is.1 hR
  obtain ⟨q, hq, h1, h2⟩ := may_ok hR hm
  obtain ⟨hc, hc2⟩ := coN_eq hs
  have hqn := qi_name hq
  have hqb : qbd (quAt Q q) L s = [((quAt Q q).2.2.1, wrap64 ((cntP (inP (quAt Q q).1) L).1 + cor s)), ((quAt Q q).2.2.2, (((cntP (inP (quAt Q q).1) L).2 + 1 : Nat) : Int))] := rfl
  rw [hqb, cnt_tot _ hT hl] at h2
  simp only at h2
  have g1 := any_no h2 (x := ((quAt Q q).2.2.1, wrap64 ((tot (inP (quAt Q q).1) L : Int) + cor s))) (by simp)
  have g2 := any_no h2 (x := ((quAt Q q).2.2.2, ((num (inP (quAt Q q).1) L + 1 : Nat) : Int))) (by simp)
  simp only at g1 g2
  have t1 := tot_le (p := inP (quAt Q q).1) L hT
  have w1 : wrap64 ((tot (inP (quAt Q q).1) L : Int) + cor s) = ((tot (inP (quAt Q q).1) L + coN s : Nat) : Int) := by
    rw [hc]; unfold wrap64; omega
  rw [w1] at g1
  have same : ∀ i, i < Q.length → inP (quAt Q i).1 s = true → i = q := fun i hi he => by
    have hx := ((qright_is.1 hRQ).2.2 i hi).1
    unfold inP at he
    rw [decide_eq_true_eq] at he
    rw [← he, hq] at hx
    cases hx; rfl
  refine ⟨fun i hi h0 => ?_, fun i hi h0 => ?_, fun i hi h0 => ?_⟩
  · rw [tot_run]
    by_cases hon : onP A (accAt A i).1 s = true
    · rw [if_pos hon]
      have hmem := (on_is).1 hon
      have ha : abd A L s (accAt A i).1 ∈ (pathP A s.acct).map (abd A L s) := List.mem_map.2 ⟨_, hmem, rfl⟩
      have g := any_no h1 ha
      have e : abd A L s (accAt A i).1 = ((accAt A i).2.2, ((tot (onP A (accAt A i).1) L + coN s : Nat) : Int)) := by
        unfold abd
        rw [limOf_eq (right_name hRA hi), cnt_tot _ hT hl]
        have t2 := tot_le (p := onP A (accAt A i).1) L hT
        congr 1
        simp only []
        rw [hc]; unfold wrap64; omega
      rw [e] at g
      exact g h0
    · rw [if_neg hon]
      exact h.acc i hi h0
  · rw [tot_run]
    by_cases hon : inP (quAt Q i).1 s = true
    · rw [if_pos hon]
      have := same i hi hon
      subst this
      exact g1 h0
    · rw [if_neg hon]
      exact h.cors i hi h0
  · rw [num_run]
    by_cases hon : inP (quAt Q i).1 s = true
    · rw [if_pos hon]
      have := same i hi hon
      subst this
      exact g2 h0
    · rw [if_neg hon]
      exact h.jobs i hi h0

end Go.Proofs.Ytpebhjncdfcmnaa
