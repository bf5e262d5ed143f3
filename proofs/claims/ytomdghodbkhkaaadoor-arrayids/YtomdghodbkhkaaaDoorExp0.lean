/- mayBeMade; rows of jobs that are written over. -/
import Derived.Test.YtomdghodbkhkaaaDoorJt
import Derived.Test.YtomdghodbkhkaaaDoorLst
import Derived.Deep.CutBlock
import Derived.Deep.Cut
import Derived.Laws.MakeOwn
namespace Go.Proofs.YtomdghodbkhkaaaDoor
open Go.RowKit
set_option linter.unusedVariables false
set_option linter.unusedSimpArgs false

theorem right_re (j : Job) (x : Option Addr) (y : Nat) : rightB (j.re x y) = rightB j := rfl

set_option maxRecDepth 100000 in
set_option maxHeartbeats 1600000 in
theorem may_any (s : Spc) (now : Int) (D : List Dp) (w : World) (hD : D.length = s.dn) (hl : s.dn * 16 ≤ 140737488355328) (hat : DAt w s.da D) :
    Calls Tryd.prog 19 #[.agg (sc s).toArray, .int .i64 now] w fun e w' => e = .returned (.bool (rightB (mkJ 1 s now))) ∧ Below w.heap.size w w' := by
  have bl := below_lit w (.cells (sc s).toArray 33)
  have hrow := hid (heap_alloc_new w (.cells (sc s).toArray 33))
  have kM := make_any 1 s now D (w.alloc (.cells (sc s).toArray 33)) hD hl (hat.below bl)
  have kR := fun x y w => right_any ((mkJ 1 s now).re x y) w (Int.le_refl 0) (by show (0 : Int) < 4294967296; decide)
  simp only [right_re] at kR
  generalize rightB (mkJ 1 s now) = R at *
  replace hat := hid hat
  replace hD := hid hD
  obtain ⟨V, hV⟩ : ∃ V, V = (sc s).toArray := ⟨_, rfl⟩
  have hVa : V.all (·.oneCell') = true := by rw [hV]; exact sc_all s
  have hVs : V.size = 8 := by rw [hV]; rfl
  obtain ⟨s0, s1, s2, s3, nn, co, lm, da, dn, dc⟩ := s
  simp only [sc] at *
  go_enter Tryd.func19, Tryd.ntmps19
  go_wp2_with (refine wpList_load_row rfl 33 (.tmp 2) rfl w.heap.size rfl 33 _ (0, 0) _ hrow.out Tryd.underlying33 rfl (by kernel_rfl) ?_)
  refine kM.mono ?_
  rintro e w1 ⟨x, y, rfl, hy, ho, hb1⟩
  replace ho := hid ho
  go_wp2_with fail
  refine (kR x y _).mono ?_
  rintro e w2 ⟨rfl, hb2⟩
  go_wp2
  go_ret
  exact ⟨rfl, bnext (bnext bl hb1) hb2⟩

theorem setAll_get : ∀ (vs : List Value) (cur : Array Value) (o i : Nat), o + vs.length ≤ cur.size → (setAll cur o vs)[i]? = if o ≤ i ∧ i < o + vs.length then vs[i - o]? else cur[i]?
  | [], cur, o, i, h => by
    rw [if_neg (by simp only [List.length_nil]; omega)]; rfl
  | v :: vs, cur, o, i, h => by
    simp only [List.length_cons] at h ⊢
    unfold setAll
    rw [setAll_get vs _ (o + 1) i (by simp; omega)]
    by_cases h1 : o + 1 ≤ i ∧ i < o + 1 + vs.length
    · rw [if_pos h1, if_pos (by omega), show i - o = (i - (o + 1)) + 1 by omega, List.getElem?_cons_succ]
    · rw [if_neg h1]
      by_cases h2 : i = o
      · subst h2
        rw [if_pos (by omega), Nat.sub_self, List.getElem?_cons_zero, Array.getElem?_setIfInBounds, if_pos rfl, if_pos (by omega)]
      · rw [if_neg (by omega)]
        rw [Array.getElem?_setIfInBounds, if_neg (fun e => h2 e.symm)]
theorem flat_put (M : List Job) (k : Nat) (J : Job) (hk : k < M.length) : setAll (M.flatMap jc).toArray (k * 17) (jc J) = ((M.set k J).flatMap jc).toArray := by
  have hlen : ∀ L : List Job, (L.flatMap jc).length = L.length * 17 := fun L => flat_len jc 17 jc_len L
  apply Array.ext_getElem?
  intro i
  rw [setAll_get _ _ _ _ (by rw [jc_len]; simp [hlen]; omega), jc_len, List.getElem?_toArray, List.getElem?_toArray]
  by_cases hi : i < M.length * 17
  · have hq : i / 17 < M.length := by omega
    have e1 : i = (i / 17) * 17 + i % 17 := by omega
    have g1 := flat_get jc 17 jc_len (M.set k J) (i / 17) (i % 17) (by simpa using hq) (by omega)
    have g2 := flat_get jc 17 jc_len M (i / 17) (i % 17) hq (by omega)
    rw [← e1] at g1 g2
    rw [g1, g2, List.getElem_set]
    by_cases h1 : k = i / 17
    · rw [if_pos (by omega), if_pos h1, show i - k * 17 = i % 17 by omega]
    · rw [if_neg (by omega), if_neg h1]
  · rw [if_neg (by omega), List.getElem?_eq_none (by rw [hlen]; omega), List.getElem?_eq_none (by rw [hlen, List.length_set]; omega)]
theorem made_jobs (n : Nat) : madeCells zJ (n * 17) = ((List.replicate n job0).flatMap jc).toArray := by
  have hlen : ((List.replicate n job0).flatMap jc).length = n * 17 := by rw [flat_len jc 17 jc_len, List.length_replicate]
  apply Array.ext_getElem?
  intro i
  have eR : ((List.replicate n job0).flatMap jc).toArray[i]? = ((List.replicate n job0).flatMap jc)[i]? := by simp
  rw [eR]
  by_cases hi : i < n * 17
  · have hq : i / 17 < (List.replicate n job0).length := by rw [List.length_replicate]; omega
    have e1 : i = (i / 17) * 17 + i % 17 := by omega
    have g1 := flat_get jc 17 jc_len (List.replicate n job0) (i / 17) (i % 17) hq (by omega)
    rw [← e1] at g1
    rw [g1, List.getElem_replicate]
    unfold madeCells
    simp only [Array.getElem?_map]
    rw [Array.getElem?_range, if_pos hi]
    have hz : ∀ r, r < 17 → some (zJ[r]!) = (jc job0)[r]? := by
      intro r hr
      have : r = 0 ∨ r = 1 ∨ r = 2 ∨ r = 3 ∨ r = 4 ∨ r = 5 ∨ r = 6 ∨ r = 7 ∨ r = 8 ∨ r = 9 ∨ r = 10 ∨ r = 11 ∨ r = 12 ∨ r = 13 ∨ r = 14 ∨ r = 15 ∨ r = 16 := by omega
      rcases this with rfl | rfl | rfl | rfl | rfl | rfl | rfl | rfl | rfl | rfl | rfl | rfl | rfl | rfl | rfl | rfl | rfl <;> rfl
    exact hz (i % 17) (by omega)
  · rw [Array.getElem?_eq_none (by rw [size_madeCells]; omega), List.getElem?_eq_none (by omega)]

/-- A block of jobs. -/
def JR (w : World) (g : Nat) (M : List Job) : Prop := w.heap[g]? = some (.cells (M.flatMap jc).toArray 43 (0, 0))
theorem JR.lt {w : World} {g : Nat} {M : List Job} (h : JR w g M) : g < w.heap.size := (Array.getElem?_eq_some_iff.1 h).1
theorem JR.kp {S : Nat → Prop} {w w' : World} {g : Nat} {M : List Job} (h : JR w g M) (hk : Kp S w w') (hn : ¬ S g) : JR w' g M := by
  unfold JR; rw [hk.block g h.lt hn]; exact h
theorem JR.below {w w' : World} {g : Nat} {M : List Job} (h : JR w g M) (hb : Below w.heap.size w w') : JR w' g M := h.kp (S := fun _ => False) (Kp.of_below hb) (fun h => h)
theorem JR.jat {w : World} {g : Nat} {M : List Job} (h : JR w g M) : JAt w (some ⟨g, 0, none⟩) M := by
  intro hne
  refine ⟨g, 0, rfl, fun i hi => ?_⟩
  rw [Nat.zero_add]
  exact row_cell h i _ (by rw [List.getElem?_toArray, List.getElem?_eq_getElem hi])
theorem JR.there {w : World} {g : Nat} {M : List Job} (h : JR w g M) {k : Nat} (hk : k < M.length) : w.there g (k * 17) 17 := fun i hi => by
  have hlen : (M.flatMap jc).length = M.length * 17 := flat_len jc 17 jc_len M
  refine ⟨?_, row_free h _⟩
  have hi2 : k * 17 + i < (M.flatMap jc).length := by omega
  rw [row_cell h (k * 17 + i) _ (by rw [List.getElem?_toArray, List.getElem?_eq_getElem hi2])]
  rfl
theorem JR.put {w : World} {g : Nat} {M : List Job} (h : JR w g M) {k : Nat} (hk : k < M.length) (J : Job) : JR (w.setCells g (k * 17) (jc J)) g (M.set k J) ∧ Kp (fun i => i = g) w (w.setCells g (k * 17) (jc J)) := by
  rw [setCells_row g 43 (0, 0) (jc J) (k * 17) _ w h, flat_put M k J hk]
  exact ⟨setRow_heap w g _ _ 43 _ h, kp_setRow (S := fun i => i = g) (Kp.refl _ _) rfl _⟩
theorem JR.cell {w : World} {g : Nat} {M : List Job} (h : JR w g M) {i : Nat} (hi : i < M.length) (r : Nat) (hr : r < 17) (v : Value) (J : Job) (hv : (jc J)[r]? = some v) (hJ : ∀ q, q ≠ r → (jc J)[q]? = (jc (jobAt M i))[q]?) :
    JR (w.setCell ⟨g, i * 17 + r, none⟩ v) g (M.set i J) ∧ Kp (fun k => k = g) w (w.setCell ⟨g, i * 17 + r, none⟩ v) := by
  have hset : (jc M[i]).set r v = jc J := by
    apply List.ext_getElem?
    intro q
    rw [List.getElem?_set]
    by_cases hq : r = q
    · subst hq
      rw [if_pos rfl, if_pos (by rw [jc_len]; exact hr), hv]
    · rw [if_neg hq, hJ q (Ne.symm hq), jobAt_eq hi]
  have hf := flat_set jc 17 jc_len hi J r v hr hset
  refine ⟨?_, Kp.setCell (S := fun k => k = g) (p := ⟨g, i * 17 + r, none⟩) (Kp.refl _ _) rfl v⟩
  unfold JR at *
  rw [setCell_eq_setRow w g (i * 17 + r) _ 43 (0, 0) v h, setRow_heap w g _ _ 43 _ h]
  rw [← hf]
  simp
end Go.Proofs.YtomdghodbkhkaaaDoor
