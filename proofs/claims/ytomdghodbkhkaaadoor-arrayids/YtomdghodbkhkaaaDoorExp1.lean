/- Expand. -/
import Derived.Test.YtomdghodbkhkaaaDoorExp0
namespace Go.Proofs.YtomdghodbkhkaaaDoor
open Go.RowKit
set_option linter.unusedVariables false
set_option linter.unusedSimpArgs false

def cntE (L : List Int) : Nat := if L.length ≤ 1 then 1 else L.length
/-- What Expand answers for an error. -/
def exE (L : List Int) (id : Int) (s : Spc) (now : Int) : Int :=
  if id < 1 ∨ (L.length ≠ 0 ∧ listB L = false) ∨ rightB (mkJ 1 s now) = false then 2 else if 1073741824 - (cntE L : Int) + 1 < id then 120 else 0
/-- The job of the place i. -/
def exJ (L : List Int) (id : Int) (s : Spc) (now : Int) (i : Nat) : Job := if i < L.length then ⟨id + i, id, itAt L i, s, 1, now, 0, 0, 0, 0⟩ else mkJ (id + i) s now
/-- A job whose dependencies are the call's own. -/
def OwnJ (W : World) (base g : Nat) (dn : Nat) (D : List Dp) (X J : Job) : Prop := ∃ x y, J = X.re x y ∧ dn ≤ y ∧ DOwn W base (.slice x dn y) D ∧ ∀ z, x = some z → g < z.block ∧ z.block < W.heap.size
def Apt (M : List Job) (n : Nat) : Prop := ∀ i j, i < j → j < n → ∀ x y, (jobAt M i).s.da = some x → (jobAt M j).s.da = some y → x.block < y.block
structure ExM (W : World) (base g : Nat) (L : List Int) (id : Int) (s : Spc) (now : Int) (D : List Dp) (M : List Job) : Prop where
  low : base ≤ g
  row : JR W g M
  len : M.length = cntE L
  job : ∀ i, i < M.length → OwnJ W base g s.dn D (exJ L id s now i) (jobAt M i)
  apt : Apt M M.length
def ExTold (W : World) (base : Nat) (L : List Int) (id : Int) (s : Spc) (now : Int) (D : List Dp) (e : Ending) : Prop :=
  (exE L id s now ≠ 0 ∧ e = .returned (.tuple #[.slice none 0 0, .int .i64 (exE L id s now)])) ∨ (exE L id s now = 0 ∧ ∃ g M, e = .returned (.tuple #[.slice (some ⟨g, 0, none⟩) (cntE L) (cntE L), .int .i64 0]) ∧ ExM W base g L id s now D M)

theorem OwnJ.kp {W W' : World} {base g dn : Nat} {D : List Dp} {X J : Job} {S : Nat → Prop} (h : OwnJ W base g dn D X J) (hk : Kp S W W') (hs : ∀ k, S k → k ≤ g) : OwnJ W' base g dn D X J := by
  obtain ⟨x, y, e, hy, ho, hz⟩ := h
  refine ⟨x, y, e, hy, owns_kp ho hk (fun k hk2 h2 => ?_), fun z hx => ⟨(hz z hx).1, Nat.lt_of_lt_of_le (hz z hx).2 hk.size⟩⟩
  cases x with
  | none => cases hk2
  | some z =>
    have h3 : z.block = k := by simpa [Value.ownBlock] using hk2
    have := hs k h2
    have := (hz z rfl).1
    omega
theorem OwnJ.below {W W' : World} {base g dn : Nat} {D : List Dp} {X J : Job} (h : OwnJ W base g dn D X J) (hb : Below W.heap.size W W') : OwnJ W' base g dn D X J := h.kp (S := fun _ => False) (Kp.of_below hb) (fun _ h => h.elim)
theorem OwnJ.low {W : World} {base base' g dn : Nat} {D : List Dp} {X J : Job} (h : OwnJ W base g dn D X J) (hb : base' ≤ base) : OwnJ W base' g dn D X J := by
  obtain ⟨x, y, e, hy, ho, hz⟩ := h
  exact ⟨x, y, e, hy, owns_low ho hb, hz⟩
theorem jobAt_set {M : List Job} {k i : Nat} {J : Job} (hk : k < M.length) : jobAt (M.set k J) i = if i = k then J else jobAt M i := by
  unfold jobAt
  rw [List.getD_eq_getElem?_getD, List.getD_eq_getElem?_getD, List.getElem?_set]
  by_cases h : k = i
  · subst h; rw [if_pos rfl, if_pos hk, if_pos rfl]; rfl
  · rw [if_neg h, if_neg (fun e => h e.symm)]

/-- While the jobs are made: those below k are there. -/
structure X1 (W : World) (g n : Nat) (id : Int) (s : Spc) (now : Int) (D : List Dp) (k : Nat) (M : List Job) : Prop where
  row : JR W g M
  len : M.length = n
  job : ∀ i, i < k → OwnJ W g g s.dn D (mkJ (id + i) s now) (jobAt M i)
  apt : Apt M k
theorem X1.put {W W2 : World} {g n : Nat} {id : Int} {s : Spc} {now : Int} {D : List Dp} {k : Nat} {M : List Job} (h : X1 W g n id s now D k M) (hk : k < n) (hb : Below W.heap.size W W2) {x : Option Addr} {y : Nat} (hy : s.dn ≤ y) (ho : DOwn W2 (W.heap.size + 1) (.slice x s.dn y) D) :
    X1 (W2.setCells g (k * 17) (jc ((mkJ (id + k) s now).re x y))) g n id s now D (k + 1) (M.set k ((mkJ (id + k) s now).re x y)) ∧ Kp (fun i => i = g) W2 (W2.setCells g (k * 17) (jc ((mkJ (id + k) s now).re x y))) := by
  have hkM : k < M.length := by rw [h.len]; exact hk
  have hr := (h.row.below hb).put hkM ((mkJ (id + k) s now).re x y)
  have hglt := h.row.lt
  have hbk : ∀ z, x = some z → W.heap.size + 1 ≤ z.block ∧ z.block < W2.heap.size := fun z hx => by
    have := World.ownsRow.lt ho z.block (by rw [hx]; rfl)
    exact this
  refine ⟨⟨hr.1, by rw [List.length_set]; exact h.len, fun i hi => ?_, ?_⟩, hr.2⟩
  · rw [jobAt_set hkM]
    by_cases hik : i = k
    · subst hik
      rw [if_pos rfl]
      have h0 : OwnJ W2 g g s.dn D (mkJ (id + i) s now) ((mkJ (id + i) s now).re x y) := ⟨x, y, rfl, hy, owns_low ho (by omega), fun z hx => ⟨by have := (hbk z hx).1; omega, (hbk z hx).2⟩⟩
      exact h0.kp hr.2 (fun k hk => Nat.le_of_eq hk)
    · rw [if_neg hik]
      exact ((h.job i (by omega)).below hb).kp hr.2 (fun k hk => Nat.le_of_eq hk)
  · intro i j hij hj u v hu hv
    rw [jobAt_set hkM] at hu hv
    by_cases hjk : j = k
    · subst hjk
      rw [if_neg (by omega)] at hu
      rw [if_pos rfl] at hv
      obtain ⟨x', y', e, _, _, hz⟩ := h.job i hij
      rw [e] at hu
      have h1 := (hz u hu).2
      have h2 := (hbk v hv).1
      omega
    · rw [if_neg (by omega)] at hu
      rw [if_neg hjk] at hv
      exact h.apt i j hij (by omega) u v hu hv

/-- While Of and Index are written: those below k have theirs. -/
def exK (L : List Int) (id : Int) (s : Spc) (now : Int) (k i : Nat) : Job := if i < k then ⟨id + i, id, itAt L i, s, 1, now, 0, 0, 0, 0⟩ else mkJ (id + i) s now
structure X2 (W : World) (g n : Nat) (L : List Int) (id : Int) (s : Spc) (now : Int) (D : List Dp) (k : Nat) (M : List Job) : Prop where
  row : JR W g M
  len : M.length = n
  job : ∀ i, i < n → OwnJ W g g s.dn D (exK L id s now k i) (jobAt M i)
  apt : Apt M n
theorem X1.all {W : World} {g n : Nat} {id : Int} {s : Spc} {now : Int} {D : List Dp} {M : List Job} (h : X1 W g n id s now D n M) (L : List Int) : X2 W g n L id s now D 0 M :=
  ⟨h.row, h.len, fun i hi => by unfold exK; rw [if_neg (by omega)]; exact h.job i hi, h.apt⟩
theorem X2.put {W : World} {g n : Nat} {L : List Int} {id : Int} {s : Spc} {now : Int} {D : List Dp} {k : Nat} {M : List Job} (h : X2 W g n L id s now D k M) (hk : k < n) :
    ∃ M', X2 ((W.setCell ⟨g, k * 17 + 1, none⟩ (.int .i64 id)).setCell ⟨g, k * 17 + 2, none⟩ (.int .i64 (itAt L k))) g n L id s now D (k + 1) M' ∧ Kp (fun i => i = g) W ((W.setCell ⟨g, k * 17 + 1, none⟩ (.int .i64 id)).setCell ⟨g, k * 17 + 2, none⟩ (.int .i64 (itAt L k))) := by
  have hkM : k < M.length := by rw [h.len]; exact hk
  obtain ⟨x, y, e, hy, ho, hz⟩ := h.job k hk
  have e0 : exK L id s now k k = mkJ (id + k) s now := by unfold exK; rw [if_neg (by omega)]
  rw [e0] at e
  obtain ⟨J1, hJ1⟩ : ∃ J1 : Job, J1 = (⟨id + k, id, 0, s, 1, now, 0, 0, 0, 0⟩ : Job).re x y := ⟨_, rfl⟩
  obtain ⟨J2, hJ2⟩ : ∃ J2 : Job, J2 = (⟨id + k, id, itAt L k, s, 1, now, 0, 0, 0, 0⟩ : Job).re x y := ⟨_, rfl⟩
  have h17 : ∀ q, q = 0 ∨ q = 1 ∨ q = 2 ∨ q = 3 ∨ q = 4 ∨ q = 5 ∨ q = 6 ∨ q = 7 ∨ q = 8 ∨ q = 9 ∨ q = 10 ∨ q = 11 ∨ q = 12 ∨ q = 13 ∨ q = 14 ∨ q = 15 ∨ q = 16 ∨ 17 ≤ q := fun q => by omega
  have c1 := h.row.cell hkM 1 (by omega) (.int .i64 id) J1 (by rw [hJ1]; rfl) (fun q hq => by
    rw [e, hJ1]
    rcases h17 q with rfl | rfl | rfl | rfl | rfl | rfl | rfl | rfl | rfl | rfl | rfl | rfl | rfl | rfl | rfl | rfl | rfl | h9
    all_goals first | exact absurd rfl hq | rfl | (rw [List.getElem?_eq_none (by rw [jc_len]; exact h9), List.getElem?_eq_none (by rw [jc_len]; exact h9)]))
  have hk1 : k < (M.set k J1).length := by rw [List.length_set]; exact hkM
  have ea : jobAt (M.set k J1) k = J1 := by rw [jobAt_set hkM, if_pos rfl]
  have c2 := c1.1.cell hk1 2 (by omega) (.int .i64 (itAt L k)) J2 (by rw [hJ2]; rfl) (fun q hq => by
    rw [ea, hJ1, hJ2]
    rcases h17 q with rfl | rfl | rfl | rfl | rfl | rfl | rfl | rfl | rfl | rfl | rfl | rfl | rfl | rfl | rfl | rfl | rfl | h9
    all_goals first | exact absurd rfl hq | rfl | (rw [List.getElem?_eq_none (by rw [jc_len]; exact h9), List.getElem?_eq_none (by rw [jc_len]; exact h9)]))
  have hK := c1.2.trans c2.2
  rw [List.set_set] at c2
  refine ⟨M.set k J2, ⟨c2.1, by rw [List.length_set]; exact h.len, fun i hi => ?_, ?_⟩, hK⟩
  · rw [jobAt_set hkM]
    by_cases hik : i = k
    · subst hik
      rw [if_pos rfl]
      have e1 : exK L id s now (i + 1) i = ⟨id + i, id, itAt L i, s, 1, now, 0, 0, 0, 0⟩ := by unfold exK; rw [if_pos (by omega)]
      rw [e1]
      have h0 : OwnJ W g g s.dn D ⟨id + i, id, itAt L i, s, 1, now, 0, 0, 0, 0⟩ J2 := ⟨x, y, hJ2, hy, ho, hz⟩
      exact h0.kp hK (fun k hk => Nat.le_of_eq hk)
    · rw [if_neg hik]
      have e1 : exK L id s now (k + 1) i = exK L id s now k i := by
        unfold exK
        by_cases h1 : i < k
        · rw [if_pos h1, if_pos (by omega)]
        · rw [if_neg h1, if_neg (by omega)]
      rw [e1]
      exact (h.job i hi).kp hK (fun k hk => Nat.le_of_eq hk)
  · intro i j hij hj u v hu hv
    have hs : ∀ q, (jobAt (M.set k J2) q).s.da = (jobAt M q).s.da := fun q => by
      rw [jobAt_set hkM]
      by_cases hq : q = k
      · subst hq; rw [if_pos rfl, hJ2, e]; rfl
      · rw [if_neg hq]
    rw [hs] at hu hv
    exact h.apt i j hij hj u v hu hv
theorem X2.done {W : World} {base g n : Nat} {L : List Int} {id : Int} {s : Spc} {now : Int} {D : List Dp} {M : List Job} (h : X2 W g n L id s now D L.length M) (hn : n = cntE L) (hb : base ≤ g) : ExM W base g L id s now D M :=
  ⟨hb, h.row, h.len.trans hn, fun i hi => (h.job i (by rw [← h.len]; exact hi)).low hb, by rw [h.len]; exact h.apt⟩
end Go.Proofs.YtomdghodbkhkaaaDoor
