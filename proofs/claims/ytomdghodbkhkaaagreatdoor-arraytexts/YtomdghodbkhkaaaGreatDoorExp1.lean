/- mayBeMade; rows of jobs that are written over. -/
import Derived.Test.YtomdghodbkhkaaaGreatDoorJt
import Derived.Test.YtomdghodbkhkaaaGreatDoorLst
import Derived.Deep.CutBlock
import Derived.Deep.Cut
import Derived.Laws.MakeOwn
namespace Go.Proofs.YtomdghodbkhkaaaGreatDoor
open Go.RowKit
set_option linter.unusedVariables false
set_option linter.unusedSimpArgs false

theorem right_re (j : Job) (x : Option Addr) (y : Nat) : rightB (j.re x y) = rightB j := rfl

set_option maxRecDepth 100000 in
set_option maxHeartbeats 1600000 in
theorem may_any (s : Spc) (now : Int) (D : List Dp) (w : World) (hD : D.length = s.dn) (hl : s.dn * 16 ≤ 140737488355328) (hat : DAt w s.da D) :
    Calls Tryz.prog 30 #[.agg (sc s).toArray, .int .i64 now] w fun e w' => e = .returned (.bool (rightB (mkJ 1 s now))) ∧ Below w.heap.size w w' := by
  have bl := below_lit w (.cells (sc s).toArray 34)
  have hrow := hid (heap_alloc_new w (.cells (sc s).toArray 34))
  have kM := make_any 1 s now D (w.alloc (.cells (sc s).toArray 34)) hD hl (hat.below bl)
  have kR := fun x y w => right_any ((mkJ 1 s now).re x y) w (Int.le_refl 0) (by show (0 : Int) < 4294967296; decide)
  simp only [right_re] at kR
  generalize rightB (mkJ 1 s now) = R at *
  replace hat := hid hat
  replace hD := hid hD
  obtain ⟨V, hV⟩ : ∃ V, V = (sc s).toArray := ⟨_, rfl⟩
  have hVa : V.all (·.oneCell') = true := by rw [hV]; exact sc_all s
  have hVs : V.size = 8 := by rw [hV]; rfl
  obtain ⟨s0, s1, s2, s3, nn, co, lm, da, dn, dc⟩ := s
  simp only [sc] at *
  go_enter Tryz.func30, Tryz.ntmps30
  go_wp2_with (refine wpList_load_row rfl 34 (.tmp 2) rfl w.heap.size rfl 34 _ (0, 0) _ hrow.out Tryz.underlying34 rfl (by kernel_rfl) ?_)
  refine kM.mono ?_
  rintro e w1 ⟨x, y, rfl, hy, ho, hb1⟩
  replace ho := hid ho
  go_wp2_with fail
  refine (kR x y _).mono ?_
  rintro e w2 ⟨rfl, hb2⟩
  go_wp2
  go_ret
  exact ⟨rfl, bnext (bnext bl hb1) hb2⟩

theorem setAll_get : ∀ (vs : List Value) (cur : Array Value) (o i : Nat), o + vs.length ≤ cur.size → (setAll cur o vs)[i]? = if o ≤ i ∧ i < o + vs.length then vs[i - o]? else cur[i]?
  | [], cur, o, i, h => by
    rw [if_neg (by simp only [List.length_nil]; omega)]; rfl
  | v :: vs, cur, o, i, h => by
    simp only [List.length_cons] at h ⊢
    unfold setAll
    rw [setAll_get vs _ (o + 1) i (by simp; omega)]
    by_cases h1 : o + 1 ≤ i ∧ i < o + 1 + vs.length
    · rw [if_pos h1, if_pos (by omega), show i - o = (i - (o + 1)) + 1 by omega, List.getElem?_cons_succ]
    · rw [if_neg h1]
      by_cases h2 : i = o
      · subst h2
        rw [if_pos (by omega), Nat.sub_self, List.getElem?_cons_zero, Array.getElem?_setIfInBounds, if_pos rfl, if_pos (by omega)]
      · rw [if_neg (by omega)]
        rw [Array.getElem?_setIfInBounds, if_neg (fun e => h2 e.symm)]
theorem flat_put (M : List Job) (k : Nat) (J : Job) (hk : k < M.length) : setAll (M.flatMap jc).toArray (k * 17) (jc J) = ((M.set k J).flatMap jc).toArray := by
  have hlen : ∀ L : List Job, (L.flatMap jc).length = L.length * 17 := fun L => flat_len jc 17 jc_len L
  apply Array.ext_getElem?
  intro i
  rw [setAll_get _ _ _ _ (by rw [jc_len]; simp [hlen]; omega), jc_len, List.getElem?_toArray, List.getElem?_toArray]
  by_cases hi : i < M.length * 17
  · have hq : i / 17 < M.length := by omega
    have e1 : i = (i / 17) * 17 + i % 17 := by omega
    have g1 := flat_get jc 17 jc_len (M.set k J) (i / 17) (i % 17) (by simpa using hq) (by omega)
    have g2 := flat_get jc 17 jc_len M (i / 17) (i % 17) hq (by omega)
    rw [← e1] at g1 g2
    rw [g1, g2, List.getElem_set]
    by_cases h1 : k = i / 17
    · rw [if_pos (by omega), if_pos h1, show i - k * 17 = i % 17 by omega]
    · rw [if_neg (by omega), if_neg h1]
  · rw [if_neg (by omega), List.getElem?_eq_none (by rw [hlen]; omega), List.getElem?_eq_none (by rw [hlen, List.length_set]; omega)]
theorem made_jobs (n : Nat) : madeCells zJ (n * 17) = ((List.replicate n job0).flatMap jc).toArray := by
  have hlen : ((List.replicate n job0).flatMap jc).length = n * 17 := by rw [flat_len jc 17 jc_len, List.length_replicate]
  apply Array.ext_getElem?
  intro i
  have eR : ((List.replicate n job0).flatMap jc).toArray[i]? = ((List.replicate n job0).flatMap jc)[i]? := by simp
  rw [eR]
  by_cases hi : i < n * 17
  · have hq : i / 17 < (List.replicate n job0).length := by rw [List.length_replicate]; omega
    have e1 : i = (i / 17) * 17 + i % 17 := by omega
    have g1 := flat_get jc 17 jc_len (List.replicate n job0) (i / 17) (i % 17) hq (by omega)
    rw [← e1] at g1
    rw [g1, List.getElem_replicate]
    unfold madeCells
    simp only [Array.getElem?_map]
    rw [Array.getElem?_range, if_pos hi]
    have hz : ∀ r, r < 17 → some (zJ[r]!) = (jc job0)[r]? := by
      intro r hr
      have : r = 0 ∨ r = 1 ∨ r = 2 ∨ r = 3 ∨ r = 4 ∨ r = 5 ∨ r = 6 ∨ r = 7 ∨ r = 8 ∨ r = 9 ∨ r = 10 ∨ r = 11 ∨ r = 12 ∨ r = 13 ∨ r = 14 ∨ r = 15 ∨ r = 16 := by omega
      rcases this with rfl | rfl | rfl | rfl | rfl | rfl | rfl | rfl | rfl | rfl | rfl | rfl | rfl | rfl | rfl | rfl | rfl <;> rfl
    exact hz (i % 17) (by omega)
  · rw [Array.getElem?_eq_none (by rw [size_madeCells]; omega), List.getElem?_eq_none (by omega)]

/-- A block of jobs. -/
def JR (w : World) (g : Nat) (M : List Job) : Prop := w.heap[g]? = some (.cells (M.flatMap jc).toArray 46 (0, 0))
theorem JR.lt {w : World} {g : Nat} {M : List Job} (h : JR w g M) : g < w.heap.size := (Array.getElem?_eq_some_iff.1 h).1
theorem JR.kp {S : Nat → Prop} {w w' : World} {g : Nat} {M : List Job} (h : JR w g M) (hk : Kp S w w') (hn : ¬ S g) : JR w' g M := by
  unfold JR; rw [hk.block g h.lt hn]; exact h
theorem JR.below {w w' : World} {g : Nat} {M : List Job} (h : JR w g M) (hb : Below w.heap.size w w') : JR w' g M := h.kp (S := fun _ => False) (Kp.of_below hb) (fun h => h)
theorem JR.jat {w : World} {g : Nat} {M : List Job} (h : JR w g M) : JAt w (some ⟨g, 0, none⟩) M := by
  intro hne
  refine ⟨g, 0, rfl, fun i hi => ?_⟩
  rw [Nat.zero_add]
  exact row_cell h i _ (by rw [List.getElem?_toArray, List.getElem?_eq_getElem hi])
theorem JR.there {w : World} {g : Nat} {M : List Job} (h : JR w g M) {k : Nat} (hk : k < M.length) : w.there g (k * 17) 17 := fun i hi => by
  have hlen : (M.flatMap jc).length = M.length * 17 := flat_len jc 17 jc_len M
  refine ⟨?_, row_free h _⟩
  have hi2 : k * 17 + i < (M.flatMap jc).length := by omega
  rw [row_cell h (k * 17 + i) _ (by rw [List.getElem?_toArray, List.getElem?_eq_getElem hi2])]
  rfl
theorem JR.put {w : World} {g : Nat} {M : List Job} (h : JR w g M) {k : Nat} (hk : k < M.length) (J : Job) : JR (w.setCells g (k * 17) (jc J)) g (M.set k J) ∧ Kp (fun i => i = g) w (w.setCells g (k * 17) (jc J)) := by
  rw [setCells_row g 46 (0, 0) (jc J) (k * 17) _ w h, flat_put M k J hk]
  exact ⟨setRow_heap w g _ _ 46 _ h, kp_setRow (S := fun i => i = g) (Kp.refl _ _) rfl _⟩
theorem JR.cell {w : World} {g : Nat} {M : List Job} (h : JR w g M) {i : Nat} (hi : i < M.length) (r : Nat) (hr : r < 17) (v : Value) (J : Job) (hv : (jc J)[r]? = some v) (hJ : ∀ q, q ≠ r → (jc J)[q]? = (jc (jobAt M i))[q]?) :
    JR (w.setCell ⟨g, i * 17 + r, none⟩ v) g (M.set i J) ∧ Kp (fun k => k = g) w (w.setCell ⟨g, i * 17 + r, none⟩ v) := by
  have hset : (jc M[i]).set r v = jc J := by
    apply List.ext_getElem?
    intro q
    rw [List.getElem?_set]
    by_cases hq : r = q
    · subst hq
      rw [if_pos rfl, if_pos (by rw [jc_len]; exact hr), hv]
    · rw [if_neg hq, hJ q (Ne.symm hq), jobAt_eq hi]
  have hf := flat_set jc 17 jc_len hi J r v hr hset
  refine ⟨?_, Kp.setCell (S := fun k => k = g) (p := ⟨g, i * 17 + r, none⟩) (Kp.refl _ _) rfl v⟩
  unfold JR at *
  rw [setCell_eq_setRow w g (i * 17 + r) _ 46 (0, 0) v h, setRow_heap w g _ _ 46 _ h]
  rw [← hf]
  simp
end Go.Proofs.YtomdghodbkhkaaaGreatDoor

namespace Go.Proofs.YtomdghodbkhkaaaGreatDoor
open Go.RowKit
set_option linter.unusedVariables false
set_option linter.unusedSimpArgs false

def cntE (L : List Int) : Nat := if L.length ≤ 1 then 1 else L.length
/-- What Expand answers for an error. -/
def exE (L : List Int) (id : Int) (s : Spc) (now : Int) : Int :=
  if id < 1 ∨ (L.length ≠ 0 ∧ listB L = false) ∨ rightB (mkJ 1 s now) = false then 2 else if 1073741824 - (cntE L : Int) + 1 < id then 120 else 0
/-- The job of the place i. -/
def exJ (L : List Int) (id : Int) (s : Spc) (now : Int) (i : Nat) : Job := if i < L.length then ⟨id + i, id, itAt L i, s, 1, now, 0, 0, 0, 0⟩ else mkJ (id + i) s now
/-- A job whose dependencies are the call's own. -/
def OwnJ (W : World) (base g : Nat) (dn : Nat) (D : List Dp) (X J : Job) : Prop := ∃ x y, J = X.re x y ∧ dn ≤ y ∧ DOwn W base (.slice x dn y) D ∧ ∀ z, x = some z → g < z.block ∧ z.block < W.heap.size
def Apt (M : List Job) (n : Nat) : Prop := ∀ i j, i < j → j < n → ∀ x y, (jobAt M i).s.da = some x → (jobAt M j).s.da = some y → x.block < y.block
structure ExM (W : World) (base g : Nat) (L : List Int) (id : Int) (s : Spc) (now : Int) (D : List Dp) (M : List Job) : Prop where
  low : base ≤ g
  row : JR W g M
  len : M.length = cntE L
  job : ∀ i, i < M.length → OwnJ W base g s.dn D (exJ L id s now i) (jobAt M i)
  apt : Apt M M.length
def ExTold (W : World) (base : Nat) (L : List Int) (id : Int) (s : Spc) (now : Int) (D : List Dp) (e : Ending) : Prop :=
  (exE L id s now ≠ 0 ∧ e = .returned (.tuple #[.slice none 0 0, .int .i64 (exE L id s now)])) ∨ (exE L id s now = 0 ∧ ∃ g M, e = .returned (.tuple #[.slice (some ⟨g, 0, none⟩) (cntE L) (cntE L), .int .i64 0]) ∧ ExM W base g L id s now D M)

theorem OwnJ.kp {W W' : World} {base g dn : Nat} {D : List Dp} {X J : Job} {S : Nat → Prop} (h : OwnJ W base g dn D X J) (hk : Kp S W W') (hs : ∀ k, S k → k ≤ g) : OwnJ W' base g dn D X J := by
  obtain ⟨x, y, e, hy, ho, hz⟩ := h
  refine ⟨x, y, e, hy, owns_kp ho hk (fun k hk2 h2 => ?_), fun z hx => ⟨(hz z hx).1, Nat.lt_of_lt_of_le (hz z hx).2 hk.size⟩⟩
  cases x with
  | none => cases hk2
  | some z =>
    have h3 : z.block = k := by simpa [Value.ownBlock] using hk2
    have := hs k h2
    have := (hz z rfl).1
    omega
theorem OwnJ.below {W W' : World} {base g dn : Nat} {D : List Dp} {X J : Job} (h : OwnJ W base g dn D X J) (hb : Below W.heap.size W W') : OwnJ W' base g dn D X J := h.kp (S := fun _ => False) (Kp.of_below hb) (fun _ h => h.elim)
theorem OwnJ.low {W : World} {base base' g dn : Nat} {D : List Dp} {X J : Job} (h : OwnJ W base g dn D X J) (hb : base' ≤ base) : OwnJ W base' g dn D X J := by
  obtain ⟨x, y, e, hy, ho, hz⟩ := h
  exact ⟨x, y, e, hy, owns_low ho hb, hz⟩
theorem jobAt_set {M : List Job} {k i : Nat} {J : Job} (hk : k < M.length) : jobAt (M.set k J) i = if i = k then J else jobAt M i := by
  unfold jobAt
  rw [List.getD_eq_getElem?_getD, List.getD_eq_getElem?_getD, List.getElem?_set]
  by_cases h : k = i
  · subst h; rw [if_pos rfl, if_pos hk, if_pos rfl]; rfl
  · rw [if_neg h, if_neg (fun e => h e.symm)]

/-- While the jobs are made: those below k are there. -/
structure X1 (W : World) (g n : Nat) (id : Int) (s : Spc) (now : Int) (D : List Dp) (k : Nat) (M : List Job) : Prop where
  row : JR W g M
  len : M.length = n
  job : ∀ i, i < k → OwnJ W g g s.dn D (mkJ (id + i) s now) (jobAt M i)
  apt : Apt M k
theorem X1.put {W W2 : World} {g n : Nat} {id : Int} {s : Spc} {now : Int} {D : List Dp} {k : Nat} {M : List Job} (h : X1 W g n id s now D k M) (hk : k < n) (hb : Below W.heap.size W W2) {x : Option Addr} {y : Nat} (hy : s.dn ≤ y) (ho : DOwn W2 (W.heap.size + 1) (.slice x s.dn y) D) :
    X1 (W2.setCells g (k * 17) (jc ((mkJ (id + k) s now).re x y))) g n id s now D (k + 1) (M.set k ((mkJ (id + k) s now).re x y)) ∧ Kp (fun i => i = g) W2 (W2.setCells g (k * 17) (jc ((mkJ (id + k) s now).re x y))) := by
  have hkM : k < M.length := by rw [h.len]; exact hk
  have hr := (h.row.below hb).put hkM ((mkJ (id + k) s now).re x y)
  have hglt := h.row.lt
  have hbk : ∀ z, x = some z → W.heap.size + 1 ≤ z.block ∧ z.block < W2.heap.size := fun z hx => by
    have := World.ownsRow.lt ho z.block (by rw [hx]; rfl)
    exact this
  refine ⟨⟨hr.1, by rw [List.length_set]; exact h.len, fun i hi => ?_, ?_⟩, hr.2⟩
  · rw [jobAt_set hkM]
    by_cases hik : i = k
    · subst hik
      rw [if_pos rfl]
      have h0 : OwnJ W2 g g s.dn D (mkJ (id + i) s now) ((mkJ (id + i) s now).re x y) := ⟨x, y, rfl, hy, owns_low ho (by omega), fun z hx => ⟨by have := (hbk z hx).1; omega, (hbk z hx).2⟩⟩
      exact h0.kp hr.2 (fun k hk => Nat.le_of_eq hk)
    · rw [if_neg hik]
      exact ((h.job i (by omega)).below hb).kp hr.2 (fun k hk => Nat.le_of_eq hk)
  · intro i j hij hj u v hu hv
    rw [jobAt_set hkM] at hu hv
    by_cases hjk : j = k
    · subst hjk
      rw [if_neg (by omega)] at hu
      rw [if_pos rfl] at hv
      obtain ⟨x', y', e, _, _, hz⟩ := h.job i hij
      rw [e] at hu
      have h1 := (hz u hu).2
      have h2 := (hbk v hv).1
      omega
    · rw [if_neg (by omega)] at hu
      rw [if_neg hjk] at hv
      exact h.apt i j hij (by omega) u v hu hv

/-- While Of and Index are written: those below k have theirs. -/
def exK (L : List Int) (id : Int) (s : Spc) (now : Int) (k i : Nat) : Job := if i < k then ⟨id + i, id, itAt L i, s, 1, now, 0, 0, 0, 0⟩ else mkJ (id + i) s now
structure X2 (W : World) (g n : Nat) (L : List Int) (id : Int) (s : Spc) (now : Int) (D : List Dp) (k : Nat) (M : List Job) : Prop where
  row : JR W g M
  len : M.length = n
  job : ∀ i, i < n → OwnJ W g g s.dn D (exK L id s now k i) (jobAt M i)
  apt : Apt M n
theorem X1.all {W : World} {g n : Nat} {id : Int} {s : Spc} {now : Int} {D : List Dp} {M : List Job} (h : X1 W g n id s now D n M) (L : List Int) : X2 W g n L id s now D 0 M :=
  ⟨h.row, h.len, fun i hi => by unfold exK; rw [if_neg (by omega)]; exact h.job i hi, h.apt⟩
theorem X2.put {W : World} {g n : Nat} {L : List Int} {id : Int} {s : Spc} {now : Int} {D : List Dp} {k : Nat} {M : List Job} (h : X2 W g n L id s now D k M) (hk : k < n) :
    ∃ M', X2 ((W.setCell ⟨g, k * 17 + 1, none⟩ (.int .i64 id)).setCell ⟨g, k * 17 + 2, none⟩ (.int .i64 (itAt L k))) g n L id s now D (k + 1) M' ∧ Kp (fun i => i = g) W ((W.setCell ⟨g, k * 17 + 1, none⟩ (.int .i64 id)).setCell ⟨g, k * 17 + 2, none⟩ (.int .i64 (itAt L k))) := by
  have hkM : k < M.length := by rw [h.len]; exact hk
  obtain ⟨x, y, e, hy, ho, hz⟩ := h.job k hk
  have e0 : exK L id s now k k = mkJ (id + k) s now := by unfold exK; rw [if_neg (by omega)]
  rw [e0] at e
  obtain ⟨J1, hJ1⟩ : ∃ J1 : Job, J1 = (⟨id + k, id, 0, s, 1, now, 0, 0, 0, 0⟩ : Job).re x y := ⟨_, rfl⟩
  obtain ⟨J2, hJ2⟩ : ∃ J2 : Job, J2 = (⟨id + k, id, itAt L k, s, 1, now, 0, 0, 0, 0⟩ : Job).re x y := ⟨_, rfl⟩
  have h17 : ∀ q, q = 0 ∨ q = 1 ∨ q = 2 ∨ q = 3 ∨ q = 4 ∨ q = 5 ∨ q = 6 ∨ q = 7 ∨ q = 8 ∨ q = 9 ∨ q = 10 ∨ q = 11 ∨ q = 12 ∨ q = 13 ∨ q = 14 ∨ q = 15 ∨ q = 16 ∨ 17 ≤ q := fun q => by omega
  have c1 := h.row.cell hkM 1 (by omega) (.int .i64 id) J1 (by rw [hJ1]; rfl) (fun q hq => by
    rw [e, hJ1]
    rcases h17 q with rfl | rfl | rfl | rfl | rfl | rfl | rfl | rfl | rfl | rfl | rfl | rfl | rfl | rfl | rfl | rfl | rfl | h9
    all_goals first | exact absurd rfl hq | rfl | (rw [List.getElem?_eq_none (by rw [jc_len]; exact h9), List.getElem?_eq_none (by rw [jc_len]; exact h9)]))
  have hk1 : k < (M.set k J1).length := by rw [List.length_set]; exact hkM
  have ea : jobAt (M.set k J1) k = J1 := by rw [jobAt_set hkM, if_pos rfl]
  have c2 := c1.1.cell hk1 2 (by omega) (.int .i64 (itAt L k)) J2 (by rw [hJ2]; rfl) (fun q hq => by
    rw [ea, hJ1, hJ2]
    rcases h17 q with rfl | rfl | rfl | rfl | rfl | rfl | rfl | rfl | rfl | rfl | rfl | rfl | rfl | rfl | rfl | rfl | rfl | h9
    all_goals first | exact absurd rfl hq | rfl | (rw [List.getElem?_eq_none (by rw [jc_len]; exact h9), List.getElem?_eq_none (by rw [jc_len]; exact h9)]))
  have hK := c1.2.trans c2.2
  rw [List.set_set] at c2
  refine ⟨M.set k J2, ⟨c2.1, by rw [List.length_set]; exact h.len, fun i hi => ?_, ?_⟩, hK⟩
  · rw [jobAt_set hkM]
    by_cases hik : i = k
    · subst hik
      rw [if_pos rfl]
      have e1 : exK L id s now (i + 1) i = ⟨id + i, id, itAt L i, s, 1, now, 0, 0, 0, 0⟩ := by unfold exK; rw [if_pos (by omega)]
      rw [e1]
      have h0 : OwnJ W g g s.dn D ⟨id + i, id, itAt L i, s, 1, now, 0, 0, 0, 0⟩ J2 := ⟨x, y, hJ2, hy, ho, hz⟩
      exact h0.kp hK (fun k hk => Nat.le_of_eq hk)
    · rw [if_neg hik]
      have e1 : exK L id s now (k + 1) i = exK L id s now k i := by
        unfold exK
        by_cases h1 : i < k
        · rw [if_pos h1, if_pos (by omega)]
        · rw [if_neg h1, if_neg (by omega)]
      rw [e1]
      exact (h.job i hi).kp hK (fun k hk => Nat.le_of_eq hk)
  · intro i j hij hj u v hu hv
    have hs : ∀ q, (jobAt (M.set k J2) q).s.da = (jobAt M q).s.da := fun q => by
      rw [jobAt_set hkM]
      by_cases hq : q = k
      · subst hq; rw [if_pos rfl, hJ2, e]; rfl
      · rw [if_neg hq]
    rw [hs] at hu hv
    exact h.apt i j hij hj u v hu hv
theorem X2.done {W : World} {base g n : Nat} {L : List Int} {id : Int} {s : Spc} {now : Int} {D : List Dp} {M : List Job} (h : X2 W g n L id s now D L.length M) (hn : n = cntE L) (hb : base ≤ g) : ExM W base g L id s now D M :=
  ⟨hb, h.row, h.len.trans hn, fun i hi => (h.job i (by rw [← h.len]; exact hi)).low hb, by rw [h.len]; exact h.apt⟩
end Go.Proofs.YtomdghodbkhkaaaGreatDoor
