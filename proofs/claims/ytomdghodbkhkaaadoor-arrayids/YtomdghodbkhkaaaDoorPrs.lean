/- Parse. -/
import Derived.Test.YtomdghodbkhkaaaDoorIxs
import Derived.Test.YtomdghodbkhkaaaDoorSrt0
import Derived.Sort.OwnSortedInts
namespace Go.Proofs.YtomdghodbkhkaaaDoor
open Go.RowKit Go.Sort
set_option linter.unusedVariables false
set_option linter.unusedSimpArgs false

theorem sort_cs (l : List Nat) (h : l.Nodup) : ((cs l).mergeSort fun x y => decide (x ≤ y)) = cs (sortS l) := by
  refine List.Perm.eq_of_pairwise (le := fun a b => decide (a ≤ b) = true) (fun a b _ _ h1 h2 => ?_) (List.pairwise_mergeSort ?_ ?_ _) ?_ ((List.mergeSort_perm _ _).trans (((sort_perm l).symm).map Int.ofNat))
  · simp at h1 h2; omega
  · intro a b c h1 h2; simp at *; omega
  · intro a b; simp; omega
  · have hr := sort_rising l h
    unfold Rise at hr
    unfold cs
    rw [List.pairwise_map]
    refine hr.imp ?_
    intro a b hab
    simp; omega
theorem ic_map (L : List Int) : L.flatMap ic = L.map (Value.int .i64) := by
  induction L with
  | nil => rfl
  | cons x t ih => rw [List.flatMap_cons, ih]; rfl

theorem sort_any (base : Nat) (a : Option Addr) (n c : Nat) (l : List Nat) (w : World) (hn : l.length = n) (h1 : 1 ≤ n) (h32 : n ≤ 1000) (hnd : l.Nodup) (ho : IOwn w base (.slice a n c) (cs l)) :
    Calls Tryd.prog 18 #[.slice a n c] w fun e w' => e = .returned (.tuple #[]) ∧ IOwn w' base (.slice a n c) (cs (sortS l)) ∧ Kp (fun k => (Value.slice a n c).ownBlock = some k) w w' := by
  have hl2 : (cs (sortS l)).length = (cs l).length := by rw [cs_len, cs_len]; exact (sort_perm l).length_eq
  have hcl : (cs l).length = n := by rw [cs_len]; exact hn
  unfold IOwn at ho
  rcases ho.2 with ⟨h, _⟩ | ⟨g, cap, cur, hv, hbase, hb, hnc, hcm, hcs, ht⟩
  · cases h; omega
  · simp only [Value.slice.injEq] at hv
    obtain ⟨rfl, hn2, rfl⟩ := hv
    have hg := (Array.getElem?_eq_some_iff.1 hb).1
    rw [Nat.mul_one, ic_map] at ht
    have k := sort_lib g 0 c (cs l) w (holds_of_blockI hb ht) hg (by omega)
    rw [hcl, sort_cs l hnd] at k
    refine k.mono ?_
    rintro e w' ⟨rfl, m, os, rfl⟩
    have h3 := ownsRow_sortedI (n := m) (os := os) (ts := cs (sortS l)) hl2 hbase hb hnc hcm (by omega)
    refine ⟨rfl, ?_, Kp.grown (grownBy_sortedI _)⟩
    unfold IOwn
    rw [ic_map, hl2]
    rw [hcl] at h3 ⊢
    exact h3

/-- What Parse tells. -/
def PTold (W : World) (base : Nat) (P : List Nat × Int) (e : Ending) : Prop :=
  (P.2 ≠ 0 ∧ e = .returned (.tuple #[.slice none 0 0, .int .i64 P.2])) ∨ (P.2 = 0 ∧ ∃ a n c, e = .returned (.tuple #[.slice a n c, .int .i64 0]) ∧ n = P.1.length ∧ IOwn W base (.slice a n c) (cs P.1))

theorem runs_ok {ps : List (List UInt8)} : okRuns (runsP ps) := by
  intro j hj
  rw [← runAt_eq hj]
  obtain ⟨p, _, hp⟩ := List.mem_filterMap.1 (List.getElem_mem hj)
  exact run_le hp
theorem runs_len (ps : List (List UInt8)) : (runsP ps).length ≤ ps.length := List.length_filterMap_le _ _

set_option maxRecDepth 100000 in
set_option maxHeartbeats 1600000 in
theorem parse_any (l : List UInt8) (hl : l.length ≤ 9223372036854775807) (w : World) :
    Calls Tryd.prog 6 #[Str l] w fun e w' => PTold w' w.heap.size (parseP l) e ∧ Below w.heap.size w w' := by
  obtain ⟨s, hs, hsz, hget, hS, hdl⟩ := str_facts l
  by_cases h4 : 400 < l.length
  · have hP := hid (show parseP l = ([], 3) by unfold parseP; rw [if_pos h4])
    have d : decide ((400 : Int) < (s.size : Int)) = true := by rw [hsz]; simp; omega
    rw [hS]
    clear hs hget hdl
    replace hsz := hid hsz
    go_enter Tryd.func6, Tryd.ntmps6
    go_wp2
    go_ret2
    rw [hP.out]
    exact ⟨.inl ⟨by decide, rfl⟩, Below.refl _ _⟩
  · have kr := runs_any l (by omega) w
    have d : decide ((400 : Int) < (s.size : Int)) = false := by rw [hsz]; simp; omega
    have hpl := (pcs_len 44 l).1
    have hrl := runs_len (pcs 44 l)
    have hro := runs_ok (ps := pcs 44 l)
    have hPg : goodP (pcs 44 l) = true → parseP l = (sortS (addS (flat (runsP (pcs 44 l))) []).1, (addS (flat (runsP (pcs 44 l))) []).2) := fun h => by unfold parseP; rw [if_neg h4, if_pos h]
    have hPb : goodP (pcs 44 l) = false → parseP l = ([], 100) := fun h => by unfold parseP; rw [if_neg h4, if_neg (by simp [h])]
    have hgl := addS_good (flat (runsP (pcs 44 l))) [] (by simp) (by simp)
    have hpos : goodP (pcs 44 l) = true → (parseP l).2 = 0 → 1 ≤ (parseP l).1.length := fun _ h => by
      rcases parse_good l with h2 | h2
      · exact h2.2.1
      · exact absurd h h2.1
    rw [hS] at kr ⊢
    unfold RsTold at kr
    generalize pcs 44 l = ps at *
    generalize runsP ps = rs at *
    generalize parseP l = P at *
    obtain ⟨AA, hAA⟩ : ∃ AA, AA = addS (flat rs) [] := ⟨_, rfl⟩
    rw [← hAA] at hPg hgl
    have ki := fun a n c w hn hat => indexes_any a n c rs w hn (by omega) hat hro
    rw [← hAA] at ki
    clear hs hget hdl hro hAA
    replace hsz := hid hsz
    replace hPg := hid hPg
    replace hPb := hid hPb
    replace hgl := hid hgl
    replace hpos := hid hpos
    go_enter Tryd.func6, Tryd.ntmps6
    go_wp2_with fail
    refine kr.mono ?_
    rintro e w1 ⟨⟨hg, rfl⟩ | ⟨hg, a, n, c, rfl, hn, hown⟩, hb1⟩
    · have hP := hid (hPb.out hg)
      replace hg := hid hg
      go_wp2
      go_ret2
      rw [hP.out]
      exact ⟨.inl ⟨by decide, rfl⟩, hb1⟩
    · have hP := hPg.out hg
      have ki2 := ki a n c w1 hn.symm hown.at
      replace hn := hid hn
      have hpos2 := hid (hpos.out hg)
      replace hg := hid hg
      go_wp2_with fail
      refine ki2.mono ?_
      rintro e w2 ⟨⟨h0, rfl⟩ | ⟨h0, a2, n2, c2, rfl, hn2, hown2⟩, hb2⟩
      · have hP2 : P.2 ≠ 0 := by rw [hP]; exact h0
        have hP3 : P.2 = AA.2 := by rw [hP]
        have d2 : (AA.2 != 0) = true := by simpa using h0
        rw [← hP3] at d2 ⊢
        replace hP2 := hid hP2
        clear hP hP3 h0
        go_wp2
        go_ret2
        exact ⟨.inl ⟨hP2.out, rfl⟩, bnext hb1 hb2⟩
      · rcases hgl.out with ⟨_, g2, g3, g4⟩ | ⟨g1, g2⟩
        · have hP2 : P.2 = 0 := by rw [hP]; exact h0
          have hP1 : P.1 = sortS AA.1 := by rw [hP]
          have h1n := hpos2.out hP2
          rw [hP1, (sort_perm AA.1).length_eq, ← hn2] at h1n
          rw [List.nil_append] at g2 g3 g4
          rw [← g2] at g3 g4
          have ks := sort_any w1.heap.size a2 n2 c2 AA.1 w2 hn2.symm h1n (by rw [hn2]; omega) g3 hown2
          have hof := fun x hx => (World.ownsRow.lt hown2 x hx).1
          have hnl := hid (show n2 = P.1.length by rw [hP1, (sort_perm AA.1).length_eq]; exact hn2)
          replace hn2 := hid hn2
          rw [← hP1] at ks
          clear hP hP1 g2 g3 g4 h0 h1n
          replace hP2 := hid hP2
          replace hown2 := hid hown2
          go_wp2_with fail
          refine ks.mono ?_
          rintro e w3 ⟨rfl, ho3, hk3⟩
          replace ho3 := hid ho3
          go_wp2
          go_ret2
          refine ⟨.inr ⟨hP2.out, a2, n2, c2, rfl, hnl.out, owns_low ho3.out hb1.size⟩, ?_⟩
          exact (bnext hb1 hb2).trans (hk3.below (fun x hx => Nat.le_trans hb1.size (hof x hx)) (Nat.le_trans hb1.size hb2.size))
        · rcases g2 with g2 | g2 <;> (rw [h0] at g2; exact absurd g2 (by decide))
end Go.Proofs.YtomdghodbkhkaaaDoor
