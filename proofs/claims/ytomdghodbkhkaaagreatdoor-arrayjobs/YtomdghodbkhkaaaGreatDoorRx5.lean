/- The document's Expand. -/
import Derived.Test.YtomdghodbkhkaaaGreatDoorRl
import Derived.Test.YtomdghodbkhkaaaGreatDoorExp1
import Derived.Test.YtomdghodbkhkaaaGreatDoorUz
import Derived.Test.YtomdghodbkhkaaaGreatDoorRun
import Derived.Deep.CutBlock
import Derived.Deep.Cut
namespace Go.Proofs.YtomdghodbkhkaaaGreatDoor
open Go.RowKit
set_option linter.unusedVariables false
set_option linter.unusedSimpArgs false

theorem info46s : (Tryz.prog.info? 46).map (·.size) = some 17 := by kernel_rfl
/-- What the document's Expand tells. -/
def RxTold (W : World) (L : List Int) (id : Int) (s : Spc) (now : Int) (D : List Dp) (e : Ending) : Prop :=
  (exE L id s now ≠ 0 ∧ e = .returned (.tuple #[.slice none 0 0, .int .i64 (exE L id s now)])) ∨ (exE L id s now = 0 ∧ ∃ b c M, e = .returned (.tuple #[.slice b (cntE L) c, .int .i64 0]) ∧ JAt W b M ∧ M.length = cntE L ∧ ∀ i, i < cntE L → ∃ x y, jobAt M i = (exJ L id s now i).re x y ∧ DAt W x D)

/-- The job, its Of and its Index written or not yet. -/
def JX (J : Job) (id V : Int) (b1 b2 : Bool) : Job := ⟨J.id, if b1 = true then id else 0, if b2 = true then V else 0, J.s, J.st, J.sub, J.beg, J.fin, J.on, J.exit⟩
def xv18 (id : Int) (b o k c j g : Nat) (V : Int) : Nat → Value → Prop
  | 0, v => v = .int .i64 id
  | 1, v => v = .slice (some ⟨b, o, none⟩) k c
  | 2, v => v = .int .i64 (j : Int)
  | 3, v => v = .pointer (some ⟨b, o + j, none⟩)
  | 4, v => v = .int .i64 V
  | 5, v => v = .pointer (some ⟨g, 1, none⟩)
  | 7, v => v = .pointer (some ⟨g, 2, none⟩)
  | _, _ => True

set_option maxRecDepth 100000 in
set_option maxHeartbeats 4000000 in
theorem rx_r18 {FF : Act → World → Prop} {w : World} {id : Int} {b o k c j g : Nat} {V : Int} {J : Job} {c2 c3 c4 c5 c6 c7 c8 c9 c10 c11 c12 c15 c16 c17 c18 c19 c20 c21 c22 c23 c24 c25 c26 c27 c28 c29 c30 c31 c32 c33 c34 c35 c36 c37 c38 c39 c40 c41 c42 c43 c44 c45 c46 c47 c48 c49 c50 c51 c52 c53 c54 c55 c56 c57 c58 c59 c60 c61 c62 c63 c64 c65 c66 c67 c68 c69 c70 c71 c72 c73 c74 c75 c76 c77 c78 c79 : Value}
    (hz : Hid (∀ w1, Kp (fun k => k = g) w w1 → w1.cell? ⟨b, o + j, none⟩ = some (.int .i64 V))) (hjk : j < k) (hr0 : Hid (w.heap[g]? = some (.cells (jc (JX J id V false false)).toArray 46 (0, 0))))
    (hQ : Hid (∀ (d68 d69 d70 d71 d72 d73 d74 : Value) (w' : World), w'.heap[g]? = some (.cells (jc (JX J id V true true)).toArray 46 (0, 0)) → Kp (fun k => k = g) w w' → FF ⟨#[.int .i64 id, .slice (some ⟨b, o, none⟩) k c, c2, c3, c4, c5, c6, c7, c8, c9, c10, c11, c12, .int .i64 (j : Int), .pointer (some ⟨g, 0, none⟩), c15, c16, c17, c18, c19, c20, c21, c22, c23, c24, c25, c26, c27, c28, c29, c30, c31, c32, c33, c34, c35, c36, c37, c38, c39, c40, c41, c42, c43, c44, c45, c46, c47, c48, c49, c50, c51, c52, c53, c54, c55, c56, c57, c58, c59, c60, c61, c62, c63, c64, c65, c66, c67, d68, d69, d70, d71, d72, d73, d74, c75, c76, c77, c78, c79], []⟩ w')) :
    Code.wp Tryz.prog ((Tryz.f14.body.bind (regAt 18)).getD .skip) (Nrm FF) ⟨#[.int .i64 id, .slice (some ⟨b, o, none⟩) k c, c2, c3, c4, c5, c6, c7, c8, c9, c10, c11, c12, .int .i64 (j : Int), .pointer (some ⟨g, 0, none⟩), c15, c16, c17, c18, c19, c20, c21, c22, c23, c24, c25, c26, c27, c28, c29, c30, c31, c32, c33, c34, c35, c36, c37, c38, c39, c40, c41, c42, c43, c44, c45, c46, c47, c48, c49, c50, c51, c52, c53, c54, c55, c56, c57, c58, c59, c60, c61, c62, c63, c64, c65, c66, c67, c68, c69, c70, c71, c72, c73, c74, c75, c76, c77, c78, c79], []⟩ w := by
  conv => arg 2; whnf
  refine wp_region_alv (Wd := fun L _ w1 => w1.heap[g]? = some (.cells (jc (JX J id V (L 6) (L 8))).toArray 46 (0, 0)) ∧ Kp (fun k => k = g) w w1) (Pv := xv18 id b o k c j g V) (by kernel_rfl) (by kernel_rfl) ?_ ?_ ?_
  · intro L V2 hL
    refine ⟨?_, Kp.of_below (drew_below w)⟩
    rw [hL 6, hL 8]
    exact hr0.out
  · refine ⟨?_, ?_, ?_, ?_, ?_, ?_, ?_, ?_, ?_, trivial⟩
    · intro ac w1 L hL hup hcl hW hdd hk Kx hK
      refine yes (want_n rfl) (wp_mv _ rfl _ (get_keep (hk 0 (no_dst (by kernel_rfl))) rfl) ?_)
      exact hK _ _ (fun _ => rfl) (fun L2 V2 i1 i2 i3 i4 => ⟨by rw [i2 6 (by decide), i2 8 (by decide)]; exact hW.1, hW.2⟩)
    · intro ac w1 L hL hup hcl hW hdd hk Kx hK
      refine yes (want_n rfl) (wp_mv _ rfl _ (get_keep (hk 1 (no_dst (by kernel_rfl))) rfl) ?_)
      exact hK _ _ (fun _ => rfl) (fun L2 V2 i1 i2 i3 i4 => ⟨by rw [i2 6 (by decide), i2 8 (by decide)]; exact hW.1, hW.2⟩)
    · intro ac w1 L hL hup hcl hW hdd hk Kx hK
      refine yes (want_n rfl) (wp_mv _ rfl _ (get_keep (hk 13 (no_dst (by kernel_rfl))) rfl) ?_)
      exact hK _ _ (fun _ => rfl) (fun L2 V2 i1 i2 i3 i4 => ⟨by rw [i2 6 (by decide), i2 8 (by decide)]; exact hW.1, hW.2⟩)
    · intro ac w1 L hL hup hcl hW hdd hk Kx hK
      have e69 : ac.tmps[69]?.getD undef = (.slice (some ⟨b, o, none⟩) k c : Value) := slot (hdd 1 _ 69 rfl rfl rfl)
      have e70 : ac.tmps[70]?.getD undef = (.int .i64 (j : Int) : Value) := slot (hdd 2 _ 70 rfl rfl rfl)
      refine yes (want_n rfl) ?_
      have hv := hid (hK (.pointer (some ⟨b, o + j, none⟩)) w1 (fun _ => rfl) (fun L2 V2 i1 i2 i3 i4 => ⟨by rw [i2 6 (by decide), i2 8 (by decide)]; exact hW.1, hW.2⟩))
      clear hK hW hL hup hdd hk hcl
      go_simp
      exact kq hv.out rfl
    · intro ac w1 L hL hup hcl hW hdd hk Kx hK
      have e71 : ac.tmps[71]?.getD undef = (.pointer (some ⟨b, o + j, none⟩) : Value) := slot (hdd 3 _ 71 rfl rfl rfl)
      have z0 := hz.out w1 hW.2
      refine yes (want_n rfl) ?_
      have hv := hid (hK (.int .i64 V) w1 (fun _ => rfl) (fun L2 V2 i1 i2 i3 i4 => ⟨by rw [i2 6 (by decide), i2 8 (by decide)]; exact hW.1, hW.2⟩))
      clear hK hW hL hup hdd hk hcl
      go_simp
      exact kq hv.out rfl
    · intro ac w1 L hL hup hcl hW hdd hk Kx hK
      have e14 : ac.tmps[14]?.getD undef = (.pointer (some ⟨g, 0, none⟩) : Value) := slot (get_keep (hk 14 (no_dst (by kernel_rfl))) rfl)
      refine yes (want_n rfl) ?_
      have hv := hid (hK (.pointer (some ⟨g, 1, none⟩)) w1 (fun _ => rfl) (fun L2 V2 i1 i2 i3 i4 => ⟨by rw [i2 6 (by decide), i2 8 (by decide)]; exact hW.1, hW.2⟩))
      clear hK hW hL hup hdd hk hcl
      go_simp
      exact kq hv.out rfl
    · intro ac w1 L hL hup hcl hW hdd hk Kx hK
      have hr := hW.1
      have hrow2 : (w1.setCell ⟨g, 1, none⟩ (.int .i64 id)).heap[g]? = some (.cells (jc (JX J id V true (L 8))).toArray 46 (0, 0)) := by
        rw [setCell_eq_setRow w1 g 1 _ 46 (0, 0) _ hr, setRow_heap w1 g _ _ 46 _ hr]
        rfl
      have f1 := row_free hr 1
      have x1 := row_cell hr 1 _ (show (jc (JX J id V (L 6) (L 8))).toArray[1]? = some (.int .i64 (if L 6 = true then id else 0)) from rfl)
      have e73 : ac.tmps[73]?.getD undef = (.pointer (some ⟨g, 1, none⟩) : Value) := slot (hdd 5 _ 73 rfl rfl rfl)
      have e68 : ac.tmps[68]?.getD undef = (.int .i64 id : Value) := slot (hdd 0 _ 68 rfl rfl rfl)
      refine yes (want_n rfl) ?_
      have hv := hid (hK undef (w1.setCell ⟨g, 1, none⟩ (.int .i64 id)) (fun h => absurd rfl h) (fun L2 V2 i1 i2 i3 i4 => ⟨by rw [i1, i2 8 (by decide)]; exact hrow2, Kp.setCell (S := fun k => k = g) (p := ⟨g, 1, none⟩) hW.2 rfl _⟩))
      rw [hL] at x1
      clear hr hrow2 hK hW hup hdd hk hcl
      go_simp
      exact hv.out
    · intro ac w1 L hL hup hcl hW hdd hk Kx hK
      have e14 : ac.tmps[14]?.getD undef = (.pointer (some ⟨g, 0, none⟩) : Value) := slot (get_keep (hk 14 (no_dst (by kernel_rfl))) rfl)
      refine yes (want_n rfl) ?_
      have hv := hid (hK (.pointer (some ⟨g, 2, none⟩)) w1 (fun _ => rfl) (fun L2 V2 i1 i2 i3 i4 => ⟨by rw [i2 6 (by decide), i2 8 (by decide)]; exact hW.1, hW.2⟩))
      clear hK hW hL hup hdd hk hcl
      go_simp
      exact kq hv.out rfl
    · intro ac w1 L hL hup hcl hW hdd hk Kx hK
      have hr := hW.1
      have hrow2 : (w1.setCell ⟨g, 2, none⟩ (.int .i64 V)).heap[g]? = some (.cells (jc (JX J id V (L 6) true)).toArray 46 (0, 0)) := by
        rw [setCell_eq_setRow w1 g 2 _ 46 (0, 0) _ hr, setRow_heap w1 g _ _ 46 _ hr]
        rfl
      have f1 := row_free hr 2
      have x1 := row_cell hr 2 _ (show (jc (JX J id V (L 6) (L 8))).toArray[2]? = some (.int .i64 (if L 8 = true then V else 0)) from rfl)
      have e74 : ac.tmps[74]?.getD undef = (.pointer (some ⟨g, 2, none⟩) : Value) := slot (hdd 7 _ 74 rfl rfl rfl)
      have e72 : ac.tmps[72]?.getD undef = (.int .i64 V : Value) := slot (hdd 4 _ 72 rfl rfl rfl)
      refine yes (want_n rfl) ?_
      have hv := hid (hK undef (w1.setCell ⟨g, 2, none⟩ (.int .i64 V)) (fun h => absurd rfl h) (fun L2 V2 i1 i2 i3 i4 => ⟨by rw [i2 6 (by decide), i1]; exact hrow2, Kp.setCell (S := fun k => k = g) (p := ⟨g, 2, none⟩) hW.2 rfl _⟩))
      rw [hL] at x1
      clear hr hrow2 hK hW hup hdd hk hcl
      go_simp
      exact hv.out
  · intro ac w1 hdf hsz hkp hval hW
    obtain ⟨L, hall, hW⟩ := hW
    obtain ⟨ff, hf⟩ : ∃ ff, ff = fun d => ac.tmps.getD d undef := ⟨_, rfl⟩
    have hfa := act_filled hdf hsz hkp
    rw [← hf] at hfa
    rw [hfa]
    clear hdf hsz hkp hval hfa hf
    clear ac
    simp only [fillAll, List.set_cons_zero, List.set_cons_succ]
    rw [hall 6 (by decide), hall 8 (by decide)] at hW
    exact hQ.out _ _ _ _ _ _ _ w1 hW.1 hW.2
end Go.Proofs.YtomdghodbkhkaaaGreatDoor

namespace Go.Proofs.YtomdghodbkhkaaaGreatDoor
open Go.RowKit
set_option linter.unusedVariables false
set_option linter.unusedSimpArgs false

/-- While the document's jobs are made. -/
def RxI (L : List Int) (id : Int) (s : Spc) (now : Int) (D : List Dp) (Ms : List (Job × List Dp)) : Prop :=
  ∀ i (h : i < Ms.length), (∃ x y, Ms[i].1 = (exJ L id s now i).re x y) ∧ Ms[i].2 = D
theorem RxI.snoc {L : List Int} {id : Int} {s : Spc} {now : Int} {D : List Dp} {Ms : List (Job × List Dp)} {J : Job} {x : Option Addr} {y j : Nat} (h : RxI L id s now D Ms) (hj : Ms.length = j) (hJ : J = (exJ L id s now j).re x y) : RxI L id s now D (Ms ++ [(J, D)]) := by
  intro i hi
  rw [List.length_append] at hi
  by_cases h1 : i < Ms.length
  · rw [List.getElem_append_left h1]; exact h i h1
  · have e : i = Ms.length := by simp at hi; omega
    subst e
    rw [List.getElem_append_right (Nat.le_refl _)]
    simp only [Nat.sub_self, List.getElem_cons_zero]
    exact ⟨⟨x, y, by rw [hj]; exact hJ⟩, trivial⟩
theorem RxI.done {L : List Int} {id : Int} {s : Spc} {now : Int} {D : List Dp} {Ms : List (Job × List Dp)} {W : World} {base n c : Nat} {a : Option Addr} (h : RxI L id s now D Ms) (hn : Ms.length = n) (hc : cntE L = n) (ho : JO W base (.slice a n c) Ms) (hE : exE L id s now = 0) :
    RxTold W L id s now D (.returned (.tuple #[.slice a n c, .int .i64 0])) := by
  refine .inr ⟨hE, a, c, Ms.map (·.1), by rw [hc], ho.jat, by rw [List.length_map, hn, hc], fun i hi => ?_⟩
  have hi2 : i < Ms.length := by omega
  have hi3 : i < (Ms.map (·.1)).length := by rw [List.length_map]; exact hi2
  obtain ⟨⟨x, y, e⟩, e2⟩ := h i hi2
  have hj : jobAt (Ms.map (·.1)) i = Ms[i].1 := by rw [← jobAt_eq hi3]; simp
  have hd := ho.dep Ms[i] (List.getElem_mem hi2)
  rw [e, e2] at hd
  exact ⟨x, y, by rw [hj, e], owns_cat hd⟩
theorem owns_new_row (w : World) (e : Nat) (cs : List Value) (base : Nat) (h : base ≤ w.heap.size) : (w.alloc (.cells cs.toArray e)).ownsRow base e cs.length (.slice (some ⟨w.heap.size, 0, none⟩) 1 1) 1 cs :=
  ⟨by omega, .inr ⟨w.heap.size, 1, cs.toArray, rfl, h, heap_alloc_new w _, Nat.le_refl _, by unfold maxLen; omega, by simp, by simp⟩⟩
theorem exJ_zero {L : List Int} (h : L.length = 0) (id : Int) (s : Spc) (now : Int) : exJ L id s now 0 = mkJ id s now := by
  unfold exJ
  rw [if_neg (by omega)]
  simp

set_option maxRecDepth 100000 in
set_option maxHeartbeats 4000000 in
theorem rx_low (id : Int) (a : Option Addr) (k c : Nat) (L : List Int) (s : Spc) (now : Int) (D : List Dp) (w : World) (hn : L.length = k) (hl : k ≤ 4611686018427387904) (hat : IAt w a L) (hD : D.length = s.dn) (hsl : s.dn * 16 ≤ 140737488355328) (hda : DAt w s.da D)
    (hid1 : id < 1) :
    Calls Tryz.prog 14 #[.int .i64 id, .slice a k c, .agg (sc s).toArray, .int .i64 now] w fun e w' => RxTold w' L id s now D e ∧ Below w.heap.size w w' := by
  have hE : exE L id s now = 2 := by unfold exE; rw [if_pos (.inl hid1)]
  have hT : ∀ W, RxTold W L id s now D (.returned (.tuple #[.slice none 0 0, .int .i64 2])) := fun W => .inl (by rw [hE]; exact ⟨by decide, rfl⟩)
  generalize RxTold = T at *
  replace hE := hid hE
  replace hT := hid hT
  change Calls Tryz.prog 14 #[.int .i64 id, .slice a k c, .agg #[.string s.user, .string s.acct, .string s.qos, .string s.part, .int .i64 s.nodes, .int .i64 s.cores, .int .i64 s.lim, .slice s.da s.dn s.dc], .int .i64 now] w _
  have d1 : decide (id < 1) = true := decide_eq_true hid1
  replace hat := hid hat
  replace hda := hid hda
  replace hD := hid hD
  replace hn := hid hn
  go_enter Tryz.func14, Tryz.ntmps14
  go_wp2
  go_ret2
  exact ⟨hT.out _, below_lit _ _⟩

set_option maxRecDepth 100000 in
set_option maxHeartbeats 4000000 in
theorem rx_list (id : Int) (a : Option Addr) (k c : Nat) (L : List Int) (s : Spc) (now : Int) (D : List Dp) (w : World) (hn : L.length = k) (hl : k ≤ 4611686018427387904) (hat : IAt w a L) (hD : D.length = s.dn) (hsl : s.dn * 16 ≤ 140737488355328) (hda : DAt w s.da D)
    (hid1 : 1 ≤ id) (hid2 : id ≤ 9223372036854775807) (hk0 : 0 < k) (hLB : listB L = false) :
    Calls Tryz.prog 14 #[.int .i64 id, .slice a k c, .agg (sc s).toArray, .int .i64 now] w fun e w' => RxTold w' L id s now D e ∧ Below w.heap.size w w' := by
  have hE : exE L id s now = 2 := by unfold exE; rw [if_pos (.inr (.inl ⟨by omega, hLB⟩))]
  have hT : ∀ W, RxTold W L id s now D (.returned (.tuple #[.slice none 0 0, .int .i64 2])) := fun W => .inl (by rw [hE]; exact ⟨by decide, rfl⟩)
  have B0 := below_lit w (.cells #[.string s.user, .string s.acct, .string s.qos, .string s.part, .int .i64 s.nodes, .int .i64 s.cores, .int .i64 s.lim, .slice s.da s.dn s.dc] 34)
  have kL := rlist_any a k c L _ hn hl (hat.below B0)
  rw [hLB] at kL
  generalize RxTold = T at *
  replace hE := hid hE
  replace hT := hid hT
  replace hLB := hid hLB
  change Calls Tryz.prog 14 #[.int .i64 id, .slice a k c, .agg #[.string s.user, .string s.acct, .string s.qos, .string s.part, .int .i64 s.nodes, .int .i64 s.cores, .int .i64 s.lim, .slice s.da s.dn s.dc], .int .i64 now] w _
  have d1 : decide (id < 1) = false := decide_eq_false (by omega)
  have d2 : decide ((0 : Int) < (k : Int)) = true := decide_eq_true (by omega)
  replace hat := hid hat
  replace hda := hid hda
  replace hD := hid hD
  replace hn := hid hn
  go_enter Tryz.func14, Tryz.ntmps14
  go_wp2_with fail
  refine kL.mono ?_
  rintro e w1 ⟨rfl, hb1⟩
  go_wp2
  go_ret2
  exact ⟨hT.out _, bnext B0 hb1⟩

set_option maxRecDepth 100000 in
set_option maxHeartbeats 4000000 in
theorem rx_bad_z (id : Int) (a : Option Addr) (k c : Nat) (L : List Int) (s : Spc) (now : Int) (D : List Dp) (w : World) (hn : L.length = k) (hl : k ≤ 4611686018427387904) (hat : IAt w a L) (hD : D.length = s.dn) (hsl : s.dn * 16 ≤ 140737488355328) (hda : DAt w s.da D)
    (hid1 : 1 ≤ id) (hid2 : id ≤ 9223372036854775807) (hk0 : k = 0) (hmb : rightB (mkJ 1 s now) = false) :
    Calls Tryz.prog 14 #[.int .i64 id, .slice a k c, .agg (sc s).toArray, .int .i64 now] w fun e w' => RxTold w' L id s now D e ∧ Below w.heap.size w w' := by
  have hE : exE L id s now = 2 := by unfold exE; rw [if_pos (.inr (.inr hmb))]
  have hT : ∀ W, RxTold W L id s now D (.returned (.tuple #[.slice none 0 0, .int .i64 2])) := fun W => .inl (by rw [hE]; exact ⟨by decide, rfl⟩)
  have B0 : Below w.heap.size w (w.alloc (.cells #[.string s.user, .string s.acct, .string s.qos, .string s.part, .int .i64 s.nodes, .int .i64 s.cores, .int .i64 s.lim, .slice s.da s.dn s.dc] 34)) := below_lit w _
  have hrow : (w.alloc (.cells #[.string s.user, .string s.acct, .string s.qos, .string s.part, .int .i64 s.nodes, .int .i64 s.cores, .int .i64 s.lim, .slice s.da s.dn s.dc] 34)).heap[w.heap.size]? = some (.cells #[.string s.user, .string s.acct, .string s.qos, .string s.part, .int .i64 s.nodes, .int .i64 s.cores, .int .i64 s.lim, .slice s.da s.dn s.dc] 34 (0, 0)) := heap_alloc_new w _
  have hlt0 := (Array.getElem?_eq_some_iff.1 hrow).1
  have kM := fun z w' hb => rmake_any z s now D w' hD hsl (hda.below (w' := w') hb)
  change ∀ z w', _ → Calls Tryz.prog 32 #[.int .i64 z, .agg #[.string s.user, .string s.acct, .string s.qos, .string s.part, .int .i64 s.nodes, .int .i64 s.cores, .int .i64 s.lim, .slice s.da s.dn s.dc], .int .i64 now] w' _ at kM
  change Calls Tryz.prog 14 #[.int .i64 id, .slice a k c, .agg #[.string s.user, .string s.acct, .string s.qos, .string s.part, .int .i64 s.nodes, .int .i64 s.cores, .int .i64 s.lim, .slice s.da s.dn s.dc], .int .i64 now] w _
  have d1 : decide (id < 1) = false := decide_eq_false (by omega)
  subst hk0
  have d2 : decide ((0 : Int) < ((0 : Nat) : Int)) = false := rfl
  generalize RxTold = T at *
  replace hE := hid hE
  replace hT := hid hT
  have hR := hid hmb
  clear hmb
  replace hrow := hid hrow
  replace kM := hid kM
  replace hat := hid hat
  replace hda := hid hda
  replace hD := hid hD
  replace hn := hid hn
  go_enter Tryz.func14, Tryz.ntmps14
  go_wp2_with (refine wpList_load_row rfl 34 (.tmp 6) rfl w.heap.size rfl 34 _ (0, 0) _ hrow.out Tryz.underlying34 rfl (by kernel_rfl) ?_)
  refine (kM.out 1 (w.alloc (.cells #[.string s.user, .string s.acct, .string s.qos, .string s.part, .int .i64 s.nodes, .int .i64 s.cores, .int .i64 s.lim, .slice s.da s.dn s.dc] 34)) B0).mono ?_
  rintro e w2 ⟨x, y, rfl, hy, ho, hb2⟩
  have B2 := bnext B0 hb2
  have row2 : w2.heap[w.heap.size]? = some (.cells #[.string s.user, .string s.acct, .string s.qos, .string s.part, .int .i64 s.nodes, .int .i64 s.cores, .int .i64 s.lim, .slice s.da s.dn s.dc] 34 (0, 0)) := by rw [hb2.block _ hlt0]; exact hrow.out
  have lt2 := (Array.getElem?_eq_some_iff.1 row2).1
  obtain ⟨J, hJ⟩ : ∃ J, J = (mkJ 1 s now).re x y := ⟨_, rfl⟩
  rw [← hJ]
  have hJr : rightB J = rightB (mkJ 1 s now) := by rw [hJ]; rfl
  have hJo : J.on = 0 := by rw [hJ]; rfl
  have u1 : (w2.alloc (.cells zJ 46)).heap[w2.heap.size]? = some (.cells zJ 46 (0, 0)) := heap_alloc_new w2 _
  obtain ⟨W3, hW3⟩ : ∃ W3, W3 = w2.alloc (.cells (jc J).toArray 46) := ⟨_, rfl⟩
  have r3 : W3.heap[w2.heap.size]? = some (.cells (jc J).toArray 46 (0, 0)) := by rw [hW3]; exact heap_alloc_new w2 _
  have bl3 : Below w2.heap.size w2 W3 := by rw [hW3]; exact below_lit w2 _
  have row3 : W3.heap[w.heap.size]? = some (.cells #[.string s.user, .string s.acct, .string s.qos, .string s.part, .int .i64 s.nodes, .int .i64 s.cores, .int .i64 s.lim, .slice s.da s.dn s.dc] 34 (0, 0)) := by rw [bl3.block _ lt2]; exact row2
  have B3 := bnext B2 bl3
  have kR := rright_any J W3 (by rw [hJo]; decide) (by rw [hJo]; decide)
  rw [hJr, hR.out] at kR
  have lt3 := (Array.getElem?_eq_some_iff.1 row3).1
  replace row2 := hid row2
  replace row3 := hid row3
  replace r3 := hid r3
  replace u1 := hid u1
  replace hJ := hid hJ
  replace hJr := hid hJr
  replace hJo := hid hJo
  replace ho := hid ho
  go_wp2_with (first | (refine wpList_store_row rfl 46 (.tmp 10) (.tmp 29) rfl w2.heap.size (jc J).toArray rfl rfl 46 _ u1.out (by kernel_rfl) rfl (jc_all _) ?_; rw [alloc_setRow, ← hW3]) | (refine wpList_load_row rfl 46 (.tmp 10) rfl w2.heap.size rfl 46 (jc J).toArray (0, 0) _ r3.out Tryz.underlying46 rfl (by kernel_rfl) ?_))
  (try rw [← hW3])
  replace hW3 := hid hW3
  refine kR.mono ?_
  rintro e w4 ⟨rfl, hb4⟩
  have B4 := bnext B3 hb4
  have row4 : w4.heap[w.heap.size]? = some (.cells #[.string s.user, .string s.acct, .string s.qos, .string s.part, .int .i64 s.nodes, .int .i64 s.cores, .int .i64 s.lim, .slice s.da s.dn s.dc] 34 (0, 0)) := by rw [hb4.block _ lt3]; exact row3.out
  have lt4 := (Array.getElem?_eq_some_iff.1 row4).1
  replace row4 := hid row4
  go_wp2
  go_ret2
  exact ⟨hT.out _, B4⟩

set_option maxRecDepth 100000 in
set_option maxHeartbeats 4000000 in
theorem rx_bad_p (id : Int) (a : Option Addr) (k c : Nat) (L : List Int) (s : Spc) (now : Int) (D : List Dp) (w : World) (hn : L.length = k) (hl : k ≤ 4611686018427387904) (hat : IAt w a L) (hD : D.length = s.dn) (hsl : s.dn * 16 ≤ 140737488355328) (hda : DAt w s.da D)
    (hid1 : 1 ≤ id) (hid2 : id ≤ 9223372036854775807) (hk0 : 0 < k) (hLB : listB L = true) (h32 : k ≤ 32) (hmb : rightB (mkJ 1 s now) = false) :
    Calls Tryz.prog 14 #[.int .i64 id, .slice a k c, .agg (sc s).toArray, .int .i64 now] w fun e w' => RxTold w' L id s now D e ∧ Below w.heap.size w w' := by
  have hE : exE L id s now = 2 := by unfold exE; rw [if_pos (.inr (.inr hmb))]
  have hT : ∀ W, RxTold W L id s now D (.returned (.tuple #[.slice none 0 0, .int .i64 2])) := fun W => .inl (by rw [hE]; exact ⟨by decide, rfl⟩)
  have B0 : Below w.heap.size w (w.alloc (.cells #[.string s.user, .string s.acct, .string s.qos, .string s.part, .int .i64 s.nodes, .int .i64 s.cores, .int .i64 s.lim, .slice s.da s.dn s.dc] 34)) := below_lit w _
  have hrow : (w.alloc (.cells #[.string s.user, .string s.acct, .string s.qos, .string s.part, .int .i64 s.nodes, .int .i64 s.cores, .int .i64 s.lim, .slice s.da s.dn s.dc] 34)).heap[w.heap.size]? = some (.cells #[.string s.user, .string s.acct, .string s.qos, .string s.part, .int .i64 s.nodes, .int .i64 s.cores, .int .i64 s.lim, .slice s.da s.dn s.dc] 34 (0, 0)) := heap_alloc_new w _
  have hlt0 := (Array.getElem?_eq_some_iff.1 hrow).1
  have kM := fun z w' hb => rmake_any z s now D w' hD hsl (hda.below (w' := w') hb)
  change ∀ z w', _ → Calls Tryz.prog 32 #[.int .i64 z, .agg #[.string s.user, .string s.acct, .string s.qos, .string s.part, .int .i64 s.nodes, .int .i64 s.cores, .int .i64 s.lim, .slice s.da s.dn s.dc], .int .i64 now] w' _ at kM
  change Calls Tryz.prog 14 #[.int .i64 id, .slice a k c, .agg #[.string s.user, .string s.acct, .string s.qos, .string s.part, .int .i64 s.nodes, .int .i64 s.cores, .int .i64 s.lim, .slice s.da s.dn s.dc], .int .i64 now] w _
  have d1 : decide (id < 1) = false := decide_eq_false (by omega)
  have d2 : decide ((0 : Int) < (k : Int)) = true := decide_eq_true (by omega)
  have kL := rlist_any a k c L (w.alloc (.cells #[.string s.user, .string s.acct, .string s.qos, .string s.part, .int .i64 s.nodes, .int .i64 s.cores, .int .i64 s.lim, .slice s.da s.dn s.dc] 34)) hn hl (hat.below B0)
  rw [hLB] at kL
  generalize RxTold = T at *
  replace hE := hid hE
  replace hT := hid hT
  have hR := hid hmb
  clear hmb
  replace hrow := hid hrow
  replace kM := hid kM
  replace hat := hid hat
  replace hda := hid hda
  replace hD := hid hD
  replace hn := hid hn
  go_enter Tryz.func14, Tryz.ntmps14
  go_wp2_with fail
  refine kL.mono ?_
  rintro e w1 ⟨rfl, hb1⟩
  have B1 := bnext B0 hb1
  have row1 := hid (show w1.heap[w.heap.size]? = some (.cells #[.string s.user, .string s.acct, .string s.qos, .string s.part, .int .i64 s.nodes, .int .i64 s.cores, .int .i64 s.lim, .slice s.da s.dn s.dc] 34 (0, 0)) by rw [hb1.block _ hlt0]; exact hrow.out)
  have lt1 : w.heap.size < w1.heap.size := Nat.lt_of_lt_of_le hlt0 hb1.size
  go_wp2_with (refine wpList_load_row rfl 34 (.tmp 6) rfl w.heap.size rfl 34 _ (0, 0) _ row1.out Tryz.underlying34 rfl (by kernel_rfl) ?_)
  refine (kM.out 1 w1 B1).mono ?_
  rintro e w2 ⟨x, y, rfl, hy, ho, hb2⟩
  have B2 := bnext B1 hb2
  have row2 : w2.heap[w.heap.size]? = some (.cells #[.string s.user, .string s.acct, .string s.qos, .string s.part, .int .i64 s.nodes, .int .i64 s.cores, .int .i64 s.lim, .slice s.da s.dn s.dc] 34 (0, 0)) := by rw [hb2.block _ lt1]; exact row1.out
  have lt2 := (Array.getElem?_eq_some_iff.1 row2).1
  obtain ⟨J, hJ⟩ : ∃ J, J = (mkJ 1 s now).re x y := ⟨_, rfl⟩
  rw [← hJ]
  have hJr : rightB J = rightB (mkJ 1 s now) := by rw [hJ]; rfl
  have hJo : J.on = 0 := by rw [hJ]; rfl
  have u1 : (w2.alloc (.cells zJ 46)).heap[w2.heap.size]? = some (.cells zJ 46 (0, 0)) := heap_alloc_new w2 _
  obtain ⟨W3, hW3⟩ : ∃ W3, W3 = w2.alloc (.cells (jc J).toArray 46) := ⟨_, rfl⟩
  have r3 : W3.heap[w2.heap.size]? = some (.cells (jc J).toArray 46 (0, 0)) := by rw [hW3]; exact heap_alloc_new w2 _
  have bl3 : Below w2.heap.size w2 W3 := by rw [hW3]; exact below_lit w2 _
  have row3 : W3.heap[w.heap.size]? = some (.cells #[.string s.user, .string s.acct, .string s.qos, .string s.part, .int .i64 s.nodes, .int .i64 s.cores, .int .i64 s.lim, .slice s.da s.dn s.dc] 34 (0, 0)) := by rw [bl3.block _ lt2]; exact row2
  have B3 := bnext B2 bl3
  have kR := rright_any J W3 (by rw [hJo]; decide) (by rw [hJo]; decide)
  rw [hJr, hR.out] at kR
  have lt3 := (Array.getElem?_eq_some_iff.1 row3).1
  replace row2 := hid row2
  replace row3 := hid row3
  replace r3 := hid r3
  replace u1 := hid u1
  replace hJ := hid hJ
  replace hJr := hid hJr
  replace hJo := hid hJo
  replace ho := hid ho
  go_wp2_with (first | (refine wpList_store_row rfl 46 (.tmp 10) (.tmp 29) rfl w2.heap.size (jc J).toArray rfl rfl 46 _ u1.out (by kernel_rfl) rfl (jc_all _) ?_; rw [alloc_setRow, ← hW3]) | (refine wpList_load_row rfl 46 (.tmp 10) rfl w2.heap.size rfl 46 (jc J).toArray (0, 0) _ r3.out Tryz.underlying46 rfl (by kernel_rfl) ?_))
  (try rw [← hW3])
  replace hW3 := hid hW3
  refine kR.mono ?_
  rintro e w4 ⟨rfl, hb4⟩
  have B4 := bnext B3 hb4
  have row4 : w4.heap[w.heap.size]? = some (.cells #[.string s.user, .string s.acct, .string s.qos, .string s.part, .int .i64 s.nodes, .int .i64 s.cores, .int .i64 s.lim, .slice s.da s.dn s.dc] 34 (0, 0)) := by rw [hb4.block _ lt3]; exact row3.out
  have lt4 := (Array.getElem?_eq_some_iff.1 row4).1
  replace row4 := hid row4
  go_wp2
  go_ret2
  exact ⟨hT.out _, B4⟩
end Go.Proofs.YtomdghodbkhkaaaGreatDoor

namespace Go.Proofs.YtomdghodbkhkaaaGreatDoor
open Go.RowKit
set_option linter.unusedVariables false
set_option linter.unusedSimpArgs false

set_option maxRecDepth 100000 in
set_option maxHeartbeats 4000000 in
theorem rx_over_za (id : Int) (a : Option Addr) (k c : Nat) (L : List Int) (s : Spc) (now : Int) (D : List Dp) (w : World) (hn : L.length = k) (hl : k ≤ 4611686018427387904) (hat : IAt w a L) (hD : D.length = s.dn) (hsl : s.dn * 16 ≤ 140737488355328) (hda : DAt w s.da D)
    (hid1 : 1 ≤ id) (hid2 : id ≤ 9223372036854775807) (hk0 : k = 0) (hmb : rightB (mkJ 1 s now) = true) (hov : 1073741824 - (cntE L : Int) + 1 < id) (hbig : 1073741824 < id) :
    Calls Tryz.prog 14 #[.int .i64 id, .slice a k c, .agg (sc s).toArray, .int .i64 now] w fun e w' => RxTold w' L id s now D e ∧ Below w.heap.size w w' := by
  have hcn : cntE L = 1 := by unfold cntE; rw [if_pos (by omega)]
  have hE : exE L id s now = 120 := by unfold exE; rw [if_neg (by rintro (h | h | h); omega; exact h.1 (by omega); rw [hmb] at h; cases h), if_pos hov]
  have hT : ∀ W, RxTold W L id s now D (.returned (.tuple #[.slice none 0 0, .int .i64 120])) := fun W => .inl (by rw [hE]; exact ⟨by decide, rfl⟩)
  rw [hcn] at hov
  have B0 : Below w.heap.size w (w.alloc (.cells #[.string s.user, .string s.acct, .string s.qos, .string s.part, .int .i64 s.nodes, .int .i64 s.cores, .int .i64 s.lim, .slice s.da s.dn s.dc] 34)) := below_lit w _
  have hrow : (w.alloc (.cells #[.string s.user, .string s.acct, .string s.qos, .string s.part, .int .i64 s.nodes, .int .i64 s.cores, .int .i64 s.lim, .slice s.da s.dn s.dc] 34)).heap[w.heap.size]? = some (.cells #[.string s.user, .string s.acct, .string s.qos, .string s.part, .int .i64 s.nodes, .int .i64 s.cores, .int .i64 s.lim, .slice s.da s.dn s.dc] 34 (0, 0)) := heap_alloc_new w _
  have hlt0 := (Array.getElem?_eq_some_iff.1 hrow).1
  have kM := fun z w' hb => rmake_any z s now D w' hD hsl (hda.below (w' := w') hb)
  change ∀ z w', _ → Calls Tryz.prog 32 #[.int .i64 z, .agg #[.string s.user, .string s.acct, .string s.qos, .string s.part, .int .i64 s.nodes, .int .i64 s.cores, .int .i64 s.lim, .slice s.da s.dn s.dc], .int .i64 now] w' _ at kM
  change Calls Tryz.prog 14 #[.int .i64 id, .slice a k c, .agg #[.string s.user, .string s.acct, .string s.qos, .string s.part, .int .i64 s.nodes, .int .i64 s.cores, .int .i64 s.lim, .slice s.da s.dn s.dc], .int .i64 now] w _
  have d1 : decide (id < 1) = false := decide_eq_false (by omega)
  subst hk0
  have d2 : decide ((0 : Int) < ((0 : Nat) : Int)) = false := rfl
  generalize RxTold = T at *
  replace hE := hid hE
  replace hT := hid hT
  have d3 : decide (1073741824 < id) = true := decide_eq_true hbig
  have hR := hid hmb
  replace hcn := hid hcn
  clear hmb
  replace hrow := hid hrow
  replace kM := hid kM
  replace hat := hid hat
  replace hda := hid hda
  replace hD := hid hD
  replace hn := hid hn
  go_enter Tryz.func14, Tryz.ntmps14
  go_wp2_with (refine wpList_load_row rfl 34 (.tmp 6) rfl w.heap.size rfl 34 _ (0, 0) _ hrow.out Tryz.underlying34 rfl (by kernel_rfl) ?_)
  refine (kM.out 1 (w.alloc (.cells #[.string s.user, .string s.acct, .string s.qos, .string s.part, .int .i64 s.nodes, .int .i64 s.cores, .int .i64 s.lim, .slice s.da s.dn s.dc] 34)) B0).mono ?_
  rintro e w2 ⟨x, y, rfl, hy, ho, hb2⟩
  have B2 := bnext B0 hb2
  have row2 : w2.heap[w.heap.size]? = some (.cells #[.string s.user, .string s.acct, .string s.qos, .string s.part, .int .i64 s.nodes, .int .i64 s.cores, .int .i64 s.lim, .slice s.da s.dn s.dc] 34 (0, 0)) := by rw [hb2.block _ hlt0]; exact hrow.out
  have lt2 := (Array.getElem?_eq_some_iff.1 row2).1
  obtain ⟨J, hJ⟩ : ∃ J, J = (mkJ 1 s now).re x y := ⟨_, rfl⟩
  rw [← hJ]
  have hJr : rightB J = rightB (mkJ 1 s now) := by rw [hJ]; rfl
  have hJo : J.on = 0 := by rw [hJ]; rfl
  have u1 : (w2.alloc (.cells zJ 46)).heap[w2.heap.size]? = some (.cells zJ 46 (0, 0)) := heap_alloc_new w2 _
  obtain ⟨W3, hW3⟩ : ∃ W3, W3 = w2.alloc (.cells (jc J).toArray 46) := ⟨_, rfl⟩
  have r3 : W3.heap[w2.heap.size]? = some (.cells (jc J).toArray 46 (0, 0)) := by rw [hW3]; exact heap_alloc_new w2 _
  have bl3 : Below w2.heap.size w2 W3 := by rw [hW3]; exact below_lit w2 _
  have row3 : W3.heap[w.heap.size]? = some (.cells #[.string s.user, .string s.acct, .string s.qos, .string s.part, .int .i64 s.nodes, .int .i64 s.cores, .int .i64 s.lim, .slice s.da s.dn s.dc] 34 (0, 0)) := by rw [bl3.block _ lt2]; exact row2
  have B3 := bnext B2 bl3
  have kR := rright_any J W3 (by rw [hJo]; decide) (by rw [hJo]; decide)
  rw [hJr, hR.out] at kR
  have lt3 := (Array.getElem?_eq_some_iff.1 row3).1
  replace row2 := hid row2
  replace row3 := hid row3
  replace r3 := hid r3
  replace u1 := hid u1
  replace hJ := hid hJ
  replace hJr := hid hJr
  replace hJo := hid hJo
  replace ho := hid ho
  go_wp2_with (first | (refine wpList_store_row rfl 46 (.tmp 10) (.tmp 29) rfl w2.heap.size (jc J).toArray rfl rfl 46 _ u1.out (by kernel_rfl) rfl (jc_all _) ?_; rw [alloc_setRow, ← hW3]) | (refine wpList_load_row rfl 46 (.tmp 10) rfl w2.heap.size rfl 46 (jc J).toArray (0, 0) _ r3.out Tryz.underlying46 rfl (by kernel_rfl) ?_))
  (try rw [← hW3])
  replace hW3 := hid hW3
  refine kR.mono ?_
  rintro e w4 ⟨rfl, hb4⟩
  have B4 := bnext B3 hb4
  have row4 : w4.heap[w.heap.size]? = some (.cells #[.string s.user, .string s.acct, .string s.qos, .string s.part, .int .i64 s.nodes, .int .i64 s.cores, .int .i64 s.lim, .slice s.da s.dn s.dc] 34 (0, 0)) := by rw [hb4.block _ lt3]; exact row3.out
  have lt4 := (Array.getElem?_eq_some_iff.1 row4).1
  replace row4 := hid row4
  go_wp2
  go_ret2
  exact ⟨hT.out _, B4⟩

set_option maxRecDepth 100000 in
set_option maxHeartbeats 4000000 in
theorem rx_over_pa (id : Int) (a : Option Addr) (k c : Nat) (L : List Int) (s : Spc) (now : Int) (D : List Dp) (w : World) (hn : L.length = k) (hl : k ≤ 4611686018427387904) (hat : IAt w a L) (hD : D.length = s.dn) (hsl : s.dn * 16 ≤ 140737488355328) (hda : DAt w s.da D)
    (hid1 : 1 ≤ id) (hid2 : id ≤ 9223372036854775807) (hk0 : 0 < k) (hLB : listB L = true) (h32 : k ≤ 32) (hmb : rightB (mkJ 1 s now) = true) (hov : 1073741824 - (cntE L : Int) + 1 < id) (hbig : 1073741824 < id) :
    Calls Tryz.prog 14 #[.int .i64 id, .slice a k c, .agg (sc s).toArray, .int .i64 now] w fun e w' => RxTold w' L id s now D e ∧ Below w.heap.size w w' := by
  have hcn : cntE L = k := by
    unfold cntE
    by_cases h1 : L.length ≤ 1
    · rw [if_pos h1]; omega
    · rw [if_neg h1, hn]
  have hE : exE L id s now = 120 := by unfold exE; rw [if_neg (by rintro (h | h | h); omega; rw [hLB] at h; cases h.2; rw [hmb] at h; cases h), if_pos hov]
  have hT : ∀ W, RxTold W L id s now D (.returned (.tuple #[.slice none 0 0, .int .i64 120])) := fun W => .inl (by rw [hE]; exact ⟨by decide, rfl⟩)
  rw [hcn] at hov
  have B0 : Below w.heap.size w (w.alloc (.cells #[.string s.user, .string s.acct, .string s.qos, .string s.part, .int .i64 s.nodes, .int .i64 s.cores, .int .i64 s.lim, .slice s.da s.dn s.dc] 34)) := below_lit w _
  have hrow : (w.alloc (.cells #[.string s.user, .string s.acct, .string s.qos, .string s.part, .int .i64 s.nodes, .int .i64 s.cores, .int .i64 s.lim, .slice s.da s.dn s.dc] 34)).heap[w.heap.size]? = some (.cells #[.string s.user, .string s.acct, .string s.qos, .string s.part, .int .i64 s.nodes, .int .i64 s.cores, .int .i64 s.lim, .slice s.da s.dn s.dc] 34 (0, 0)) := heap_alloc_new w _
  have hlt0 := (Array.getElem?_eq_some_iff.1 hrow).1
  have kM := fun z w' hb => rmake_any z s now D w' hD hsl (hda.below (w' := w') hb)
  change ∀ z w', _ → Calls Tryz.prog 32 #[.int .i64 z, .agg #[.string s.user, .string s.acct, .string s.qos, .string s.part, .int .i64 s.nodes, .int .i64 s.cores, .int .i64 s.lim, .slice s.da s.dn s.dc], .int .i64 now] w' _ at kM
  change Calls Tryz.prog 14 #[.int .i64 id, .slice a k c, .agg #[.string s.user, .string s.acct, .string s.qos, .string s.part, .int .i64 s.nodes, .int .i64 s.cores, .int .i64 s.lim, .slice s.da s.dn s.dc], .int .i64 now] w _
  have d1 : decide (id < 1) = false := decide_eq_false (by omega)
  have d2 : decide ((0 : Int) < (k : Int)) = true := decide_eq_true (by omega)
  have kL := rlist_any a k c L (w.alloc (.cells #[.string s.user, .string s.acct, .string s.qos, .string s.part, .int .i64 s.nodes, .int .i64 s.cores, .int .i64 s.lim, .slice s.da s.dn s.dc] 34)) hn hl (hat.below B0)
  rw [hLB] at kL
  generalize RxTold = T at *
  replace hE := hid hE
  replace hT := hid hT
  have d3 : decide (1073741824 < id) = true := decide_eq_true hbig
  have hR := hid hmb
  replace hcn := hid hcn
  clear hmb
  replace hrow := hid hrow
  replace kM := hid kM
  replace hat := hid hat
  replace hda := hid hda
  replace hD := hid hD
  replace hn := hid hn
  go_enter Tryz.func14, Tryz.ntmps14
  go_wp2_with fail
  refine kL.mono ?_
  rintro e w1 ⟨rfl, hb1⟩
  have B1 := bnext B0 hb1
  have row1 := hid (show w1.heap[w.heap.size]? = some (.cells #[.string s.user, .string s.acct, .string s.qos, .string s.part, .int .i64 s.nodes, .int .i64 s.cores, .int .i64 s.lim, .slice s.da s.dn s.dc] 34 (0, 0)) by rw [hb1.block _ hlt0]; exact hrow.out)
  have lt1 : w.heap.size < w1.heap.size := Nat.lt_of_lt_of_le hlt0 hb1.size
  go_wp2_with (refine wpList_load_row rfl 34 (.tmp 6) rfl w.heap.size rfl 34 _ (0, 0) _ row1.out Tryz.underlying34 rfl (by kernel_rfl) ?_)
  refine (kM.out 1 w1 B1).mono ?_
  rintro e w2 ⟨x, y, rfl, hy, ho, hb2⟩
  have B2 := bnext B1 hb2
  have row2 : w2.heap[w.heap.size]? = some (.cells #[.string s.user, .string s.acct, .string s.qos, .string s.part, .int .i64 s.nodes, .int .i64 s.cores, .int .i64 s.lim, .slice s.da s.dn s.dc] 34 (0, 0)) := by rw [hb2.block _ lt1]; exact row1.out
  have lt2 := (Array.getElem?_eq_some_iff.1 row2).1
  obtain ⟨J, hJ⟩ : ∃ J, J = (mkJ 1 s now).re x y := ⟨_, rfl⟩
  rw [← hJ]
  have hJr : rightB J = rightB (mkJ 1 s now) := by rw [hJ]; rfl
  have hJo : J.on = 0 := by rw [hJ]; rfl
  have u1 : (w2.alloc (.cells zJ 46)).heap[w2.heap.size]? = some (.cells zJ 46 (0, 0)) := heap_alloc_new w2 _
  obtain ⟨W3, hW3⟩ : ∃ W3, W3 = w2.alloc (.cells (jc J).toArray 46) := ⟨_, rfl⟩
  have r3 : W3.heap[w2.heap.size]? = some (.cells (jc J).toArray 46 (0, 0)) := by rw [hW3]; exact heap_alloc_new w2 _
  have bl3 : Below w2.heap.size w2 W3 := by rw [hW3]; exact below_lit w2 _
  have row3 : W3.heap[w.heap.size]? = some (.cells #[.string s.user, .string s.acct, .string s.qos, .string s.part, .int .i64 s.nodes, .int .i64 s.cores, .int .i64 s.lim, .slice s.da s.dn s.dc] 34 (0, 0)) := by rw [bl3.block _ lt2]; exact row2
  have B3 := bnext B2 bl3
  have kR := rright_any J W3 (by rw [hJo]; decide) (by rw [hJo]; decide)
  rw [hJr, hR.out] at kR
  have lt3 := (Array.getElem?_eq_some_iff.1 row3).1
  replace row2 := hid row2
  replace row3 := hid row3
  replace r3 := hid r3
  replace u1 := hid u1
  replace hJ := hid hJ
  replace hJr := hid hJr
  replace hJo := hid hJo
  replace ho := hid ho
  go_wp2_with (first | (refine wpList_store_row rfl 46 (.tmp 10) (.tmp 29) rfl w2.heap.size (jc J).toArray rfl rfl 46 _ u1.out (by kernel_rfl) rfl (jc_all _) ?_; rw [alloc_setRow, ← hW3]) | (refine wpList_load_row rfl 46 (.tmp 10) rfl w2.heap.size rfl 46 (jc J).toArray (0, 0) _ r3.out Tryz.underlying46 rfl (by kernel_rfl) ?_))
  (try rw [← hW3])
  replace hW3 := hid hW3
  refine kR.mono ?_
  rintro e w4 ⟨rfl, hb4⟩
  have B4 := bnext B3 hb4
  have row4 : w4.heap[w.heap.size]? = some (.cells #[.string s.user, .string s.acct, .string s.qos, .string s.part, .int .i64 s.nodes, .int .i64 s.cores, .int .i64 s.lim, .slice s.da s.dn s.dc] 34 (0, 0)) := by rw [hb4.block _ lt3]; exact row3.out
  have lt4 := (Array.getElem?_eq_some_iff.1 row4).1
  replace row4 := hid row4
  go_wp2
  go_ret2
  exact ⟨hT.out _, B4⟩

set_option maxRecDepth 100000 in
set_option maxHeartbeats 4000000 in
theorem rx_over_pb (id : Int) (a : Option Addr) (k c : Nat) (L : List Int) (s : Spc) (now : Int) (D : List Dp) (w : World) (hn : L.length = k) (hl : k ≤ 4611686018427387904) (hat : IAt w a L) (hD : D.length = s.dn) (hsl : s.dn * 16 ≤ 140737488355328) (hda : DAt w s.da D)
    (hid1 : 1 ≤ id) (hid2 : id ≤ 9223372036854775807) (hk0 : 0 < k) (hLB : listB L = true) (h32 : k ≤ 32) (hmb : rightB (mkJ 1 s now) = true) (hov : 1073741824 - (cntE L : Int) + 1 < id) (hbig : ¬ 1073741824 < id) :
    Calls Tryz.prog 14 #[.int .i64 id, .slice a k c, .agg (sc s).toArray, .int .i64 now] w fun e w' => RxTold w' L id s now D e ∧ Below w.heap.size w w' := by
  have hcn : cntE L = k := by
    unfold cntE
    by_cases h1 : L.length ≤ 1
    · rw [if_pos h1]; omega
    · rw [if_neg h1, hn]
  have hE : exE L id s now = 120 := by unfold exE; rw [if_neg (by rintro (h | h | h); omega; rw [hLB] at h; cases h.2; rw [hmb] at h; cases h), if_pos hov]
  have hT : ∀ W, RxTold W L id s now D (.returned (.tuple #[.slice none 0 0, .int .i64 120])) := fun W => .inl (by rw [hE]; exact ⟨by decide, rfl⟩)
  rw [hcn] at hov
  have B0 : Below w.heap.size w (w.alloc (.cells #[.string s.user, .string s.acct, .string s.qos, .string s.part, .int .i64 s.nodes, .int .i64 s.cores, .int .i64 s.lim, .slice s.da s.dn s.dc] 34)) := below_lit w _
  have hrow : (w.alloc (.cells #[.string s.user, .string s.acct, .string s.qos, .string s.part, .int .i64 s.nodes, .int .i64 s.cores, .int .i64 s.lim, .slice s.da s.dn s.dc] 34)).heap[w.heap.size]? = some (.cells #[.string s.user, .string s.acct, .string s.qos, .string s.part, .int .i64 s.nodes, .int .i64 s.cores, .int .i64 s.lim, .slice s.da s.dn s.dc] 34 (0, 0)) := heap_alloc_new w _
  have hlt0 := (Array.getElem?_eq_some_iff.1 hrow).1
  have kM := fun z w' hb => rmake_any z s now D w' hD hsl (hda.below (w' := w') hb)
  change ∀ z w', _ → Calls Tryz.prog 32 #[.int .i64 z, .agg #[.string s.user, .string s.acct, .string s.qos, .string s.part, .int .i64 s.nodes, .int .i64 s.cores, .int .i64 s.lim, .slice s.da s.dn s.dc], .int .i64 now] w' _ at kM
  change Calls Tryz.prog 14 #[.int .i64 id, .slice a k c, .agg #[.string s.user, .string s.acct, .string s.qos, .string s.part, .int .i64 s.nodes, .int .i64 s.cores, .int .i64 s.lim, .slice s.da s.dn s.dc], .int .i64 now] w _
  have d1 : decide (id < 1) = false := decide_eq_false (by omega)
  have d2 : decide ((0 : Int) < (k : Int)) = true := decide_eq_true (by omega)
  have kL := rlist_any a k c L (w.alloc (.cells #[.string s.user, .string s.acct, .string s.qos, .string s.part, .int .i64 s.nodes, .int .i64 s.cores, .int .i64 s.lim, .slice s.da s.dn s.dc] 34)) hn hl (hat.below B0)
  rw [hLB] at kL
  generalize RxTold = T at *
  replace hE := hid hE
  replace hT := hid hT
  have d3 : decide (1073741824 < id) = false := decide_eq_false hbig
  have d4 : decide (1073741824 < id + (k : Int) - 1) = true := decide_eq_true (by omega)
  have hR := hid hmb
  replace hcn := hid hcn
  clear hmb
  replace hrow := hid hrow
  replace kM := hid kM
  replace hat := hid hat
  replace hda := hid hda
  replace hD := hid hD
  replace hn := hid hn
  go_enter Tryz.func14, Tryz.ntmps14
  go_wp2_with fail
  refine kL.mono ?_
  rintro e w1 ⟨rfl, hb1⟩
  have B1 := bnext B0 hb1
  have row1 := hid (show w1.heap[w.heap.size]? = some (.cells #[.string s.user, .string s.acct, .string s.qos, .string s.part, .int .i64 s.nodes, .int .i64 s.cores, .int .i64 s.lim, .slice s.da s.dn s.dc] 34 (0, 0)) by rw [hb1.block _ hlt0]; exact hrow.out)
  have lt1 : w.heap.size < w1.heap.size := Nat.lt_of_lt_of_le hlt0 hb1.size
  go_wp2_with (refine wpList_load_row rfl 34 (.tmp 6) rfl w.heap.size rfl 34 _ (0, 0) _ row1.out Tryz.underlying34 rfl (by kernel_rfl) ?_)
  refine (kM.out 1 w1 B1).mono ?_
  rintro e w2 ⟨x, y, rfl, hy, ho, hb2⟩
  have B2 := bnext B1 hb2
  have row2 : w2.heap[w.heap.size]? = some (.cells #[.string s.user, .string s.acct, .string s.qos, .string s.part, .int .i64 s.nodes, .int .i64 s.cores, .int .i64 s.lim, .slice s.da s.dn s.dc] 34 (0, 0)) := by rw [hb2.block _ lt1]; exact row1.out
  have lt2 := (Array.getElem?_eq_some_iff.1 row2).1
  obtain ⟨J, hJ⟩ : ∃ J, J = (mkJ 1 s now).re x y := ⟨_, rfl⟩
  rw [← hJ]
  have hJr : rightB J = rightB (mkJ 1 s now) := by rw [hJ]; rfl
  have hJo : J.on = 0 := by rw [hJ]; rfl
  have u1 : (w2.alloc (.cells zJ 46)).heap[w2.heap.size]? = some (.cells zJ 46 (0, 0)) := heap_alloc_new w2 _
  obtain ⟨W3, hW3⟩ : ∃ W3, W3 = w2.alloc (.cells (jc J).toArray 46) := ⟨_, rfl⟩
  have r3 : W3.heap[w2.heap.size]? = some (.cells (jc J).toArray 46 (0, 0)) := by rw [hW3]; exact heap_alloc_new w2 _
  have bl3 : Below w2.heap.size w2 W3 := by rw [hW3]; exact below_lit w2 _
  have row3 : W3.heap[w.heap.size]? = some (.cells #[.string s.user, .string s.acct, .string s.qos, .string s.part, .int .i64 s.nodes, .int .i64 s.cores, .int .i64 s.lim, .slice s.da s.dn s.dc] 34 (0, 0)) := by rw [bl3.block _ lt2]; exact row2
  have B3 := bnext B2 bl3
  have kR := rright_any J W3 (by rw [hJo]; decide) (by rw [hJo]; decide)
  rw [hJr, hR.out] at kR
  have lt3 := (Array.getElem?_eq_some_iff.1 row3).1
  replace row2 := hid row2
  replace row3 := hid row3
  replace r3 := hid r3
  replace u1 := hid u1
  replace hJ := hid hJ
  replace hJr := hid hJr
  replace hJo := hid hJo
  replace ho := hid ho
  go_wp2_with (first | (refine wpList_store_row rfl 46 (.tmp 10) (.tmp 29) rfl w2.heap.size (jc J).toArray rfl rfl 46 _ u1.out (by kernel_rfl) rfl (jc_all _) ?_; rw [alloc_setRow, ← hW3]) | (refine wpList_load_row rfl 46 (.tmp 10) rfl w2.heap.size rfl 46 (jc J).toArray (0, 0) _ r3.out Tryz.underlying46 rfl (by kernel_rfl) ?_))
  (try rw [← hW3])
  replace hW3 := hid hW3
  refine kR.mono ?_
  rintro e w4 ⟨rfl, hb4⟩
  have B4 := bnext B3 hb4
  have row4 : w4.heap[w.heap.size]? = some (.cells #[.string s.user, .string s.acct, .string s.qos, .string s.part, .int .i64 s.nodes, .int .i64 s.cores, .int .i64 s.lim, .slice s.da s.dn s.dc] 34 (0, 0)) := by rw [hb4.block _ lt3]; exact row3.out
  have lt4 := (Array.getElem?_eq_some_iff.1 row4).1
  replace row4 := hid row4
  go_wp2
  go_ret2
  exact ⟨hT.out _, B4⟩
end Go.Proofs.YtomdghodbkhkaaaGreatDoor

namespace Go.Proofs.YtomdghodbkhkaaaGreatDoor
open Go.RowKit
set_option linter.unusedVariables false
set_option linter.unusedSimpArgs false

set_option maxRecDepth 100000 in
set_option maxHeartbeats 4000000 in
theorem rx_ok_z (id : Int) (a : Option Addr) (k c : Nat) (L : List Int) (s : Spc) (now : Int) (D : List Dp) (w : World) (hn : L.length = k) (hl : k ≤ 4611686018427387904) (hat : IAt w a L) (hD : D.length = s.dn) (hsl : s.dn * 16 ≤ 140737488355328) (hda : DAt w s.da D)
    (hid1 : 1 ≤ id) (hid2 : id ≤ 9223372036854775807) (hk0 : k = 0) (hmb : rightB (mkJ 1 s now) = true) (hov : ¬ 1073741824 - (cntE L : Int) + 1 < id) :
    Calls Tryz.prog 14 #[.int .i64 id, .slice a k c, .agg (sc s).toArray, .int .i64 now] w fun e w' => RxTold w' L id s now D e ∧ Below w.heap.size w w' := by
  have hcn : cntE L = 1 := by unfold cntE; rw [if_pos (by omega)]
  have hE : exE L id s now = 0 := by unfold exE; rw [if_neg (by rintro (h | h | h); omega; exact h.1 (by omega); rw [hmb] at h; cases h), if_neg hov]
  have hL0 : L.length = 0 := by omega
  have hT : ∀ W g (M : List (Job × List Dp)), RxI L id s now D M → M.length = 1 → JO W w.heap.size (.slice (some ⟨g, 0, none⟩) 1 1) M → RxTold W L id s now D (.returned (.tuple #[.slice (some ⟨g, 0, none⟩) 1 1, .int .i64 0])) := fun W g M h1 h2 h3 => h1.done h2 hcn h3 hE
  rw [hcn] at hov
  have B0 : Below w.heap.size w (w.alloc (.cells #[.string s.user, .string s.acct, .string s.qos, .string s.part, .int .i64 s.nodes, .int .i64 s.cores, .int .i64 s.lim, .slice s.da s.dn s.dc] 34)) := below_lit w _
  have hrow : (w.alloc (.cells #[.string s.user, .string s.acct, .string s.qos, .string s.part, .int .i64 s.nodes, .int .i64 s.cores, .int .i64 s.lim, .slice s.da s.dn s.dc] 34)).heap[w.heap.size]? = some (.cells #[.string s.user, .string s.acct, .string s.qos, .string s.part, .int .i64 s.nodes, .int .i64 s.cores, .int .i64 s.lim, .slice s.da s.dn s.dc] 34 (0, 0)) := heap_alloc_new w _
  have hlt0 := (Array.getElem?_eq_some_iff.1 hrow).1
  have kM := fun z w' hb => rmake_any z s now D w' hD hsl (hda.below (w' := w') hb)
  change ∀ z w', _ → Calls Tryz.prog 32 #[.int .i64 z, .agg #[.string s.user, .string s.acct, .string s.qos, .string s.part, .int .i64 s.nodes, .int .i64 s.cores, .int .i64 s.lim, .slice s.da s.dn s.dc], .int .i64 now] w' _ at kM
  change Calls Tryz.prog 14 #[.int .i64 id, .slice a k c, .agg #[.string s.user, .string s.acct, .string s.qos, .string s.part, .int .i64 s.nodes, .int .i64 s.cores, .int .i64 s.lim, .slice s.da s.dn s.dc], .int .i64 now] w _
  have d1 : decide (id < 1) = false := decide_eq_false (by omega)
  subst hk0
  have d2 : decide ((0 : Int) < ((0 : Nat) : Int)) = false := rfl
  generalize RxTold = T at *
  replace hE := hid hE
  replace hT := hid hT
  have d3 : decide (1073741824 < id) = false := decide_eq_false (by omega)
  have hR := hid hmb
  replace hcn := hid hcn
  replace hL0 := hid hL0
  obtain ⟨i0, hi, hz0, hz1, hz2⟩ := info_parts info53
  clear hmb
  replace hrow := hid hrow
  replace kM := hid kM
  replace hat := hid hat
  replace hda := hid hda
  replace hD := hid hD
  replace hn := hid hn
  go_enter Tryz.func14, Tryz.ntmps14
  go_wp2_with (refine wpList_load_row rfl 34 (.tmp 6) rfl w.heap.size rfl 34 _ (0, 0) _ hrow.out Tryz.underlying34 rfl (by kernel_rfl) ?_)
  refine (kM.out 1 (w.alloc (.cells #[.string s.user, .string s.acct, .string s.qos, .string s.part, .int .i64 s.nodes, .int .i64 s.cores, .int .i64 s.lim, .slice s.da s.dn s.dc] 34)) B0).mono ?_
  rintro e w2 ⟨x, y, rfl, hy, ho, hb2⟩
  have B2 := bnext B0 hb2
  have row2 : w2.heap[w.heap.size]? = some (.cells #[.string s.user, .string s.acct, .string s.qos, .string s.part, .int .i64 s.nodes, .int .i64 s.cores, .int .i64 s.lim, .slice s.da s.dn s.dc] 34 (0, 0)) := by rw [hb2.block _ hlt0]; exact hrow.out
  have lt2 := (Array.getElem?_eq_some_iff.1 row2).1
  obtain ⟨J, hJ⟩ : ∃ J, J = (mkJ 1 s now).re x y := ⟨_, rfl⟩
  rw [← hJ]
  have hJr : rightB J = rightB (mkJ 1 s now) := by rw [hJ]; rfl
  have hJo : J.on = 0 := by rw [hJ]; rfl
  have u1 : (w2.alloc (.cells zJ 46)).heap[w2.heap.size]? = some (.cells zJ 46 (0, 0)) := heap_alloc_new w2 _
  obtain ⟨W3, hW3⟩ : ∃ W3, W3 = w2.alloc (.cells (jc J).toArray 46) := ⟨_, rfl⟩
  have r3 : W3.heap[w2.heap.size]? = some (.cells (jc J).toArray 46 (0, 0)) := by rw [hW3]; exact heap_alloc_new w2 _
  have bl3 : Below w2.heap.size w2 W3 := by rw [hW3]; exact below_lit w2 _
  have row3 : W3.heap[w.heap.size]? = some (.cells #[.string s.user, .string s.acct, .string s.qos, .string s.part, .int .i64 s.nodes, .int .i64 s.cores, .int .i64 s.lim, .slice s.da s.dn s.dc] 34 (0, 0)) := by rw [bl3.block _ lt2]; exact row2
  have B3 := bnext B2 bl3
  have kR := rright_any J W3 (by rw [hJo]; decide) (by rw [hJo]; decide)
  rw [hJr, hR.out] at kR
  have lt3 := (Array.getElem?_eq_some_iff.1 row3).1
  replace row2 := hid row2
  replace row3 := hid row3
  replace r3 := hid r3
  replace u1 := hid u1
  replace hJ := hid hJ
  replace hJr := hid hJr
  replace hJo := hid hJo
  replace ho := hid ho
  go_wp2_with (first | (refine wpList_store_row rfl 46 (.tmp 10) (.tmp 29) rfl w2.heap.size (jc J).toArray rfl rfl 46 _ u1.out (by kernel_rfl) rfl (jc_all _) ?_; rw [alloc_setRow, ← hW3]) | (refine wpList_load_row rfl 46 (.tmp 10) rfl w2.heap.size rfl 46 (jc J).toArray (0, 0) _ r3.out Tryz.underlying46 rfl (by kernel_rfl) ?_))
  (try rw [← hW3])
  replace hW3 := hid hW3
  refine kR.mono ?_
  rintro e w4 ⟨rfl, hb4⟩
  have B4 := bnext B3 hb4
  have row4 : w4.heap[w.heap.size]? = some (.cells #[.string s.user, .string s.acct, .string s.qos, .string s.part, .int .i64 s.nodes, .int .i64 s.cores, .int .i64 s.lim, .slice s.da s.dn s.dc] 34 (0, 0)) := by rw [hb4.block _ lt3]; exact row3.out
  have lt4 := (Array.getElem?_eq_some_iff.1 row4).1
  replace row4 := hid row4
  go_wp2_with (refine wpList_load_row rfl 34 (.tmp 6) rfl w.heap.size rfl 34 _ (0, 0) _ row4.out Tryz.underlying34 rfl (by kernel_rfl) ?_)
  refine (kM.out id w4 B4).mono ?_
  rintro e w5 ⟨x5, y5, rfl, hy5, ho5, hb5⟩
  obtain ⟨J5, hJ5⟩ : ∃ J5, J5 = (mkJ id s now).re x5 y5 := ⟨_, rfl⟩
  rw [← hJ5]
  have B5 := bnext B4 hb5
  have bl6 := below_lit w5 (.cells (jc J5).toArray 46)
  have B6 := bnext B5 bl6
  have hI : RxI L id s now D [(J5, D)] := RxI.snoc (Ms := []) (j := 0) (x := x5) (y := y5) (fun i h => absurd h (Nat.not_lt_zero i)) rfl (by rw [exJ_zero hL0.out, hJ5])
  have hJO : JO (w5.alloc (.cells (jc J5).toArray 46)) w.heap.size (.slice (some ⟨w5.heap.size, 0, none⟩) 1 1) [(J5, D)] := by
    refine ⟨?_, ?_, ?_⟩
    · simpa using (show (w5.alloc (.cells (jc J5).toArray 46)).ownsRow w.heap.size 46 17 (.slice (some ⟨w5.heap.size, 0, none⟩) 1 1) 1 (jc J5) from owns_new_row w5 46 (jc J5) w.heap.size (by have := B5.size; omega))
    · intro p hp
      rw [List.mem_singleton.1 hp]
      have e7 : J5.s.da = x5 ∧ J5.s.dn = s.dn ∧ J5.s.dc = y5 := by rw [hJ5]; exact ⟨rfl, rfl, rfl⟩
      show DOwn _ _ (.slice J5.s.da J5.s.dn J5.s.dc) D
      rw [e7.1, e7.2.1, e7.2.2]
      exact owns_low (ho5.below bl6) (by have := B4.size; omega)
    · intro p hp z hz
      rw [List.mem_singleton.1 hp, hJ5] at hz
      have hz2 : x5 = some z := hz
      subst hz2
      have := (owns_blk ho5).2
      rw [ownBlock_some]
      intro he
      simp only [Option.some.injEq] at he
      omega
  have hfin := hid (hT.out _ _ _ hI rfl hJO)
  clear hI hJO ho5
  replace hJ5 := hid hJ5
  go_wp2_with (refine wpList_one rfl 38 46 (.tmp 54) rfl (jc J5).toArray 17 i0 _ Tryz.underlying38 hi hz0 hz1 (by omega) (by omega) rfl rfl ?_)
  go_ret2
  exact ⟨hfin.out, B6⟩
end Go.Proofs.YtomdghodbkhkaaaGreatDoor

namespace Go.Proofs.YtomdghodbkhkaaaGreatDoor
open Go.RowKit
set_option linter.unusedVariables false
set_option linter.unusedSimpArgs false

set_option maxRecDepth 100000 in
set_option maxHeartbeats 4000000 in
theorem rx_ok_p (id : Int) (a : Option Addr) (k c : Nat) (L : List Int) (s : Spc) (now : Int) (D : List Dp) (w : World) (hn : L.length = k) (hl : k ≤ 4611686018427387904) (hat : IAt w a L) (hD : D.length = s.dn) (hsl : s.dn * 16 ≤ 140737488355328) (hda : DAt w s.da D)
    (hid1 : 1 ≤ id) (hid2 : id ≤ 9223372036854775807) (hk0 : 0 < k) (hLB : listB L = true) (h32 : k ≤ 32) (hmb : rightB (mkJ 1 s now) = true) (hov : ¬ 1073741824 - (cntE L : Int) + 1 < id) :
    Calls Tryz.prog 14 #[.int .i64 id, .slice a k c, .agg (sc s).toArray, .int .i64 now] w fun e w' => RxTold w' L id s now D e ∧ Below w.heap.size w w' := by
  have hcn : cntE L = k := by
    unfold cntE
    by_cases h1 : L.length ≤ 1
    · rw [if_pos h1]; omega
    · rw [if_neg h1, hn]
  have hE : exE L id s now = 0 := by unfold exE; rw [if_neg (by rintro (h | h | h); omega; rw [hLB] at h; cases h.2; rw [hmb] at h; cases h), if_neg hov]
  have hT : ∀ W base a c (M : List (Job × List Dp)), RxI L id s now D M → M.length = k → JO W base (.slice a k c) M → RxTold W L id s now D (.returned (.tuple #[.slice a k c, .int .i64 0])) := fun W base a c M h1 h2 h3 => h1.done h2 hcn h3 hE
  rw [hcn] at hov
  have B0 : Below w.heap.size w (w.alloc (.cells #[.string s.user, .string s.acct, .string s.qos, .string s.part, .int .i64 s.nodes, .int .i64 s.cores, .int .i64 s.lim, .slice s.da s.dn s.dc] 34)) := below_lit w _
  have hrow : (w.alloc (.cells #[.string s.user, .string s.acct, .string s.qos, .string s.part, .int .i64 s.nodes, .int .i64 s.cores, .int .i64 s.lim, .slice s.da s.dn s.dc] 34)).heap[w.heap.size]? = some (.cells #[.string s.user, .string s.acct, .string s.qos, .string s.part, .int .i64 s.nodes, .int .i64 s.cores, .int .i64 s.lim, .slice s.da s.dn s.dc] 34 (0, 0)) := heap_alloc_new w _
  have hlt0 := (Array.getElem?_eq_some_iff.1 hrow).1
  have kM := fun z w' hb => rmake_any z s now D w' hD hsl (hda.below (w' := w') hb)
  change ∀ z w', _ → Calls Tryz.prog 32 #[.int .i64 z, .agg #[.string s.user, .string s.acct, .string s.qos, .string s.part, .int .i64 s.nodes, .int .i64 s.cores, .int .i64 s.lim, .slice s.da s.dn s.dc], .int .i64 now] w' _ at kM
  change Calls Tryz.prog 14 #[.int .i64 id, .slice a k c, .agg #[.string s.user, .string s.acct, .string s.qos, .string s.part, .int .i64 s.nodes, .int .i64 s.cores, .int .i64 s.lim, .slice s.da s.dn s.dc], .int .i64 now] w _
  have d1 : decide (id < 1) = false := decide_eq_false (by omega)
  have d2 : decide ((0 : Int) < (k : Int)) = true := decide_eq_true (by omega)
  have kL := rlist_any a k c L (w.alloc (.cells #[.string s.user, .string s.acct, .string s.qos, .string s.part, .int .i64 s.nodes, .int .i64 s.cores, .int .i64 s.lim, .slice s.da s.dn s.dc] 34)) hn hl (hat.below B0)
  rw [hLB] at kL
  generalize RxTold = T at *
  replace hE := hid hE
  replace hT := hid hT
  have d3 : decide (1073741824 < id) = false := decide_eq_false (by omega)
  have d4 : decide (1073741824 < id + (k : Int) - 1) = false := decide_eq_false (by omega)
  have d5 : ((k : Int) == 0) = false := by simp; omega
  have hR := hid hmb
  have hLk := hid hn
  replace hcn := hid hcn
  obtain ⟨i0, hi, hz0, hz1, hz2⟩ := info_parts info53
  have hidk : id + (k : Int) ≤ 1073741825 := by omega
  clear hmb
  replace hrow := hid hrow
  replace kM := hid kM
  replace hat := hid hat
  replace hda := hid hda
  replace hD := hid hD
  replace hn := hid hn
  go_enter Tryz.func14, Tryz.ntmps14
  go_wp2_with fail
  refine kL.mono ?_
  rintro e w1 ⟨rfl, hb1⟩
  have B1 := bnext B0 hb1
  have row1 := hid (show w1.heap[w.heap.size]? = some (.cells #[.string s.user, .string s.acct, .string s.qos, .string s.part, .int .i64 s.nodes, .int .i64 s.cores, .int .i64 s.lim, .slice s.da s.dn s.dc] 34 (0, 0)) by rw [hb1.block _ hlt0]; exact hrow.out)
  have lt1 : w.heap.size < w1.heap.size := Nat.lt_of_lt_of_le hlt0 hb1.size
  go_wp2_with (refine wpList_load_row rfl 34 (.tmp 6) rfl w.heap.size rfl 34 _ (0, 0) _ row1.out Tryz.underlying34 rfl (by kernel_rfl) ?_)
  refine (kM.out 1 w1 B1).mono ?_
  rintro e w2 ⟨x, y, rfl, hy, ho, hb2⟩
  have B2 := bnext B1 hb2
  have row2 : w2.heap[w.heap.size]? = some (.cells #[.string s.user, .string s.acct, .string s.qos, .string s.part, .int .i64 s.nodes, .int .i64 s.cores, .int .i64 s.lim, .slice s.da s.dn s.dc] 34 (0, 0)) := by rw [hb2.block _ lt1]; exact row1.out
  have lt2 := (Array.getElem?_eq_some_iff.1 row2).1
  obtain ⟨J, hJ⟩ : ∃ J, J = (mkJ 1 s now).re x y := ⟨_, rfl⟩
  rw [← hJ]
  have hJr : rightB J = rightB (mkJ 1 s now) := by rw [hJ]; rfl
  have hJo : J.on = 0 := by rw [hJ]; rfl
  have u1 : (w2.alloc (.cells zJ 46)).heap[w2.heap.size]? = some (.cells zJ 46 (0, 0)) := heap_alloc_new w2 _
  obtain ⟨W3, hW3⟩ : ∃ W3, W3 = w2.alloc (.cells (jc J).toArray 46) := ⟨_, rfl⟩
  have r3 : W3.heap[w2.heap.size]? = some (.cells (jc J).toArray 46 (0, 0)) := by rw [hW3]; exact heap_alloc_new w2 _
  have bl3 : Below w2.heap.size w2 W3 := by rw [hW3]; exact below_lit w2 _
  have row3 : W3.heap[w.heap.size]? = some (.cells #[.string s.user, .string s.acct, .string s.qos, .string s.part, .int .i64 s.nodes, .int .i64 s.cores, .int .i64 s.lim, .slice s.da s.dn s.dc] 34 (0, 0)) := by rw [bl3.block _ lt2]; exact row2
  have B3 := bnext B2 bl3
  have kR := rright_any J W3 (by rw [hJo]; decide) (by rw [hJo]; decide)
  rw [hJr, hR.out] at kR
  have lt3 := (Array.getElem?_eq_some_iff.1 row3).1
  replace row2 := hid row2
  replace row3 := hid row3
  replace r3 := hid r3
  replace u1 := hid u1
  replace hJ := hid hJ
  replace hJr := hid hJr
  replace hJo := hid hJo
  replace ho := hid ho
  go_wp2_with (first | (refine wpList_store_row rfl 46 (.tmp 10) (.tmp 29) rfl w2.heap.size (jc J).toArray rfl rfl 46 _ u1.out (by kernel_rfl) rfl (jc_all _) ?_; rw [alloc_setRow, ← hW3]) | (refine wpList_load_row rfl 46 (.tmp 10) rfl w2.heap.size rfl 46 (jc J).toArray (0, 0) _ r3.out Tryz.underlying46 rfl (by kernel_rfl) ?_))
  (try rw [← hW3])
  replace hW3 := hid hW3
  refine kR.mono ?_
  rintro e w4 ⟨rfl, hb4⟩
  have B4 := bnext B3 hb4
  have row4 : w4.heap[w.heap.size]? = some (.cells #[.string s.user, .string s.acct, .string s.qos, .string s.part, .int .i64 s.nodes, .int .i64 s.cores, .int .i64 s.lim, .slice s.da s.dn s.dc] 34 (0, 0)) := by rw [hb4.block _ lt3]; exact row3.out
  have lt4 := (Array.getElem?_eq_some_iff.1 row4).1
  replace row4 := hid row4
  have hex : ∀ kk, kk < k → exJ L id s now kk = ⟨id + (kk : Int), id, itAt L kk, s, 1, now, 0, 0, 0, 0⟩ := fun kk h => by unfold exJ; rw [if_pos (by rw [hLk.out]; exact h)]
  replace hex := hid hex
  replace hW3 := hid hW3
  clear hb4 hb2 hb1
  go_wp2_with fail
  go_loopw [12, 13] (fun v i wr => ∃ (j : Nat) (M : List (Job × List Dp)), j ≤ k ∧ i = .int .i64 (j : Int) ∧ M.length = j ∧ Hid (JO wr w4.heap.size v M ∧ RxI L id s now D M) ∧ Hid (Below w4.heap.size w4 wr)) (fun _ i _ => k - (intOf i).toNat)
  case atStart => exact ⟨0, [], Nat.zero_le _, rfl, rfl, hid ⟨JO.nil _ _, fun i h => absurd h (Nat.not_lt_zero i)⟩, hid (Below.refl _ _)⟩
  case round =>
    obtain ⟨j, M, hj, rfl, hM, hown, hb⟩ := hrel
    obtain ⟨va, vc, e, hvc⟩ := owns_form hown.out.1.own
    subst e
    rw [hM] at hown hvc ⊢
    have Bw := bnext B4 hb.out
    have row5 := hid (show wr.heap[w.heap.size]? = some (.cells #[.string s.user, .string s.acct, .string s.qos, .string s.part, .int .i64 s.nodes, .int .i64 s.cores, .int .i64 s.lim, .slice s.da s.dn s.dc] 34 (0, 0)) by rw [hb.out.block _ lt4]; exact row4.out)
    by_cases hlt : j < k
    · obtain ⟨b, o, e⟩ := hat.out.place (by rw [hLk.out]; omega)
      subst e
      have hbk : b < w.heap.size := by
        have := hat.out.one (i := j) (by rw [hLk.out]; exact hlt)
        exact World.block_lt_of_cell? _ _ this
      have kk := kM.out (id + (j : Int)) wr Bw
      have e0 := hat.out.one (i := j) (by rw [hLk.out]; exact hlt)
      have hej := hex.out j hlt
      generalize itAt L j = V at *
      replace e0 := hid e0
      replace hej := hid hej
      go_wp2_with (refine wpList_load_row rfl 34 (.tmp 6) rfl w.heap.size rfl 34 _ (0, 0) _ row5.out Tryz.underlying34 rfl (by kernel_rfl) ?_)
      refine kk.mono ?_
      rintro e w5 ⟨x5, y5, rfl, hy5, ho5, hb5⟩
      obtain ⟨J5, hJ5⟩ : ∃ J5, J5 = (mkJ (id + (j : Int)) s now).re x5 y5 := ⟨_, rfl⟩
      rw [← hJ5]
      have B5 := bnext Bw hb5
      have u5 : (w5.alloc (.cells zJ 46)).heap[w5.heap.size]? = some (.cells zJ 46 (0, 0)) := heap_alloc_new w5 _
      obtain ⟨W6, hW6⟩ : ∃ W6, W6 = w5.alloc (.cells (jc J5).toArray 46) := ⟨_, rfl⟩
      have r6 : W6.heap[w5.heap.size]? = some (.cells (jc (JX J5 id V false false)).toArray 46 (0, 0)) := by rw [hW6, hJ5]; exact heap_alloc_new w5 _
      have bl6 : Below w5.heap.size w5 W6 := by rw [hW6]; exact below_lit w5 _
      have h2J : JX J5 id V true true = (exJ L id s now j).re x5 y5 := by rw [hej.out, hJ5]; rfl
      have hz := hid (fun (w1 : World) (hk : Kp (fun k => k = w5.heap.size) W6 w1) => (show w1.cell? ⟨b, o + j, none⟩ = some (.int .i64 V) from stay ((bnext B5 bl6).trans (hk.below (fun i hi => by have := B5.size; omega) (by have := (bnext B5 bl6).size; omega))) e0.out))
      have hsz6 := bl6.size
      have lt6 := (Array.getElem?_eq_some_iff.1 r6).1
      have s5 := hb5.size
      have sw := Bw.size
      replace u5 := hid u5
      replace r6 := hid r6
      replace ho5 := hid ho5
      replace hJ5 := hid hJ5
      replace hW6 := hid hW6
      replace h2J := hid h2J
      go_upto_region 18 with (refine wpList_store_row rfl 46 (.tmp 14) (.tmp 67) rfl w5.heap.size (jc J5).toArray rfl rfl 46 _ u5.out (by kernel_rfl) rfl (jc_all _) ?_; rw [alloc_setRow, ← hW6.out])
      (try rw [← hW6.out])
      refine Code.wp_mono nrm_of ?_
      refine rx_r18 hz hlt r6 (hid ?_)
      intro d68 d69 d70 d71 d72 d73 d74 w7 R7 K7
      rw [h2J.out] at R7
      obtain ⟨J7, hJ7⟩ : ∃ J7, J7 = (exJ L id s now j).re x5 y5 := ⟨_, rfl⟩
      rw [← hJ7] at R7
      have hb67 : Below w5.heap.size w5 w7 := bl6.trans (K7.below (fun i hi => by omega) (by omega))
      have hbr7 : Below wr.heap.size wr w7 := bnext hb5 hb67
      have s7 := hbr7.size
      have bl8 := below_lit w7 (.cells (jc J7).toArray 46)
      have B8 := bnext (bnext Bw hbr7) bl8
      have hJO8 := hid ((hown.out.1.below hbr7).below bl8)
      have e7 : J7.s.da = x5 ∧ J7.s.dn = s.dn ∧ J7.s.dc = y5 := by rw [hJ7, hej.out]; exact ⟨rfl, rfl, rfl⟩
      have hw4 := hb.out.size
      have ho8 : DOwn (w7.alloc (.cells (jc J7).toArray 46)) w4.heap.size (.slice J7.s.da J7.s.dn J7.s.dc) D := by
        rw [e7.1, e7.2.1, e7.2.2]
        exact owns_low ((ho5.out.below hb67).below bl8) (by omega)
      have hoff : ∀ z, J7.s.da = some z → (Value.slice va j vc).ownBlock ≠ some z.block := fun z hz he => by
        rw [e7.1] at hz
        subst hz
        have h1 := owns_lt hown.out.1.own he
        have h2 := (owns_blk ho5.out).1
        omega
      have hcat := hid (cat_lit w7 46 (jc J7) (jc J7).toArray rfl)
      have hone := hid (jc_one J7)
      have hown8' : (w7.alloc (.cells (jc J7).toArray 46)).ownsRow w4.heap.size 46 17 (.slice va j vc) j ((M.map (·.1)).flatMap jc) := by
        have := hJO8.out.own
        rw [hM] at this
        exact this
      have hI8 := hid (hown.out.2.snoc hM (x := x5) (y := y5) hJ7)
      have hb8 := hid (bnext hb.out (bnext hbr7 bl8))
      have hb48 := (bnext hb.out (bnext hbr7 bl8)).size
      have s4 := B4.size
      replace hown8' := hid hown8'
      replace ho8 := hid ho8
      replace hoff := hid hoff
      replace R7 := hid R7
      replace K7 := hid K7
      replace hJ7 := hid hJ7
      clear e7 hb67 hbr7 bl8 kk hz
      have hmax : j + 1 ≤ maxLen := by unfold maxLen; omega
      have hbd : (j + 1) * 184 ≤ 140737488355328 := by omega
      go_wp2_with (first | (refine wpList_load_row rfl 46 (.tmp 14) rfl w5.heap.size rfl 46 (jc J7).toArray (0, 0) _ R7.out Tryz.underlying46 rfl (by kernel_rfl) ?_) | (refine wpList_one rfl 38 46 (.tmp 76) rfl (jc J7).toArray 17 i0 _ Tryz.underlying38 hi hz0 hz1 (by omega) (by omega) rfl rfl ?_) | (at_builtin; refine Hid.out ?_))
      refine wpList_cat _ rfl (.tmp 75) (.tmp 77) 38 rfl w4.heap.size 46 i0 _ 17 184 Tryz.underlying38 hi hz0 hz1 hz2 rfl (by omega) _ _ _ rfl hown8'.out (some ⟨w7.heap.size, 0, none⟩) 1 1 (jc J7) rfl rfl hcat.out hone.out hmax hbd hb8.out.size ?_
      intro v' w9 ho9 hg9 hv9
      have hJ9 := hid (JO.more hJO8.out hM (x := J7) (D := D) ho8.out hoff.out hg9 ho9 hv9)
      have B9 : Below w4.heap.size w4 w9 := Below.grown hb8.out hg9 hb8.out.size (fun i hi => (hown8'.out.lt _ hi).1)
      clear ho9 hg9 hv9 hcat
      replace B9 := hid B9
      go_wp2_with fail
      go_roundw
      case rel => exact ⟨j + 1, M ++ [(J7, D)], by omega, by go_num, by rw [List.length_append, hM]; rfl, hid ⟨hJ9.out, hI8.out⟩, B9⟩
      case measure => simp [intOf]; omega
    · have hje : j = k := by omega
      subst hje
      have hfin := hid (hT.out wr _ va vc M hown.out.2 hM hown.out.1)
      go_wp2
      go_ret2
      exact ⟨hfin.out, Bw⟩
end Go.Proofs.YtomdghodbkhkaaaGreatDoor

namespace Go.Proofs.YtomdghodbkhkaaaGreatDoor
open Go.RowKit

theorem rexpand_any (id : Int) (a : Option Addr) (k c : Nat) (L : List Int) (s : Spc) (now : Int) (D : List Dp) (w : World) (hn : L.length = k) (hl : k ≤ 4611686018427387904) (hat : IAt w a L) (hD : D.length = s.dn) (hsl : s.dn * 16 ≤ 140737488355328) (hda : DAt w s.da D) (hid2 : id ≤ 9223372036854775807) :
    Calls Tryz.prog 14 #[.int .i64 id, .slice a k c, .agg (sc s).toArray, .int .i64 now] w fun e w' => RxTold w' L id s now D e ∧ Below w.heap.size w w' := by
  by_cases h1 : id < 1
  · exact rx_low id a k c L s now D w hn hl hat hD hsl hda h1
  · have h1' : 1 ≤ id := by omega
    rcases Nat.eq_zero_or_pos k with h0 | h0
    · cases hm : rightB (mkJ 1 s now)
      · exact rx_bad_z id a k c L s now D w hn hl hat hD hsl hda h1' hid2 h0 hm
      · by_cases hov : 1073741824 - (cntE L : Int) + 1 < id
        · have hc : cntE L = 1 := by unfold cntE; rw [if_pos (by omega)]
          exact rx_over_za id a k c L s now D w hn hl hat hD hsl hda h1' hid2 h0 hm hov (by rw [hc] at hov; omega)
        · exact rx_ok_z id a k c L s now D w hn hl hat hD hsl hda h1' hid2 h0 hm hov
    · cases hL : listB L
      · exact rx_list id a k c L s now D w hn hl hat hD hsl hda h1' hid2 h0 hL
      · have h32 : k ≤ 32 := by have := ((listB_iff L).1 hL).2.1; omega
        cases hm : rightB (mkJ 1 s now)
        · exact rx_bad_p id a k c L s now D w hn hl hat hD hsl hda h1' hid2 h0 hL h32 hm
        · by_cases hov : 1073741824 - (cntE L : Int) + 1 < id
          · by_cases hb : 1073741824 < id
            · exact rx_over_pa id a k c L s now D w hn hl hat hD hsl hda h1' hid2 h0 hL h32 hm hov hb
            · exact rx_over_pb id a k c L s now D w hn hl hat hD hsl hda h1' hid2 h0 hL h32 hm hov hb
          · exact rx_ok_p id a k c L s now D w hn hl hat hD hsl hda h1' hid2 h0 hL h32 hm hov
end Go.Proofs.YtomdghodbkhkaaaGreatDoor
