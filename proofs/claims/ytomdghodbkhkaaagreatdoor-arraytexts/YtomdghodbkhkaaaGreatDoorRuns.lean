/- runsOf: the runs that a text tells. -/
import Derived.Test.YtomdghodbkhkaaaGreatDoorRun2
import Derived.Deep.MidRow
namespace Go.Proofs.YtomdghodbkhkaaaGreatDoor
open Go.RowKit
set_option linter.unusedVariables false
set_option linter.unusedSimpArgs false

def txtAt (T : List (List UInt8)) (i : Nat) : List UInt8 := T.getD i []
theorem txtAt_eq {T : List (List UInt8)} {i : Nat} (h : i < T.length) : T[i] = txtAt T i := by simp [txtAt, h]
theorem pcs_len (c : UInt8) : ∀ l : List UInt8, (pcs c l).length ≤ l.length + 1 ∧ ∀ p ∈ pcs c l, p.length ≤ l.length
  | [] => by simp [pcs]
  | b :: t => by
    obtain ⟨h1, h2⟩ := pcs_len c t
    unfold pcs
    split
    · refine ⟨by simp; omega, fun p hp => ?_⟩
      rcases List.mem_cons.1 hp with rfl | hp
      · simp
      · have := h2 p hp; simp; omega
    · split
      · rename_i p ps e
        rw [e] at h1 h2
        refine ⟨by simp at h1 ⊢; omega, fun q hq => ?_⟩
        rcases List.mem_cons.1 hq with rfl | hq
        · have := h2 p (by simp); simp; omega
        · have := h2 q (by simp [hq]); simp; omega
      · exact ⟨by simp, fun q hq => by simp at hq; subst hq; simp⟩

/-- The pieces ahead of j tell these runs. -/
def RI (ps : List (List UInt8)) (j : Nat) (rs : List Run) : Prop := rs = runsP (ps.take j) ∧ goodP (ps.take j) = true
theorem RI.start (ps : List (List UInt8)) : RI ps 0 [] := by constructor <;> rfl
theorem RI.next {ps : List (List UInt8)} {j : Nat} {rs : List Run} (h : RI ps j rs) (hj : j < ps.length) (hok : (runV (txtAt ps j)).2 = true) : RI ps (j + 1) (rs ++ [(runV (txtAt ps j)).1]) := by
  have e := runV_is (txtAt ps j)
  rw [hok, if_pos rfl] at e
  obtain ⟨h1, h2⟩ := h
  unfold RI
  rw [take_more hj, txtAt_eq hj]
  constructor
  · unfold runsP at *
    rw [List.filterMap_append, ← h1]
    simp [e]
  · unfold goodP at *
    rw [List.all_append, h2]
    simp [e]
theorem good_no {ps : List (List UInt8)} {j : Nat} (hj : j < ps.length) (hok : (runV (txtAt ps j)).2 = false) : goodP ps = false := by
  have e := runV_is (txtAt ps j)
  rw [hok] at e
  unfold goodP
  rw [List.all_eq_false]
  refine ⟨ps[j], List.getElem_mem hj, ?_⟩
  rw [txtAt_eq hj, e]
  simp
theorem RI.all {ps : List (List UInt8)} {rs : List Run} (h : RI ps ps.length rs) : rs = runsP ps ∧ goodP ps = true := by
  obtain ⟨h1, h2⟩ := h
  rw [List.take_length] at h1 h2
  exact ⟨h1, h2⟩

/-- What runsOf tells. -/
def RsTold (W : World) (base : Nat) (ps : List (List UInt8)) (e : Ending) : Prop :=
  (goodP ps = false ∧ e = .returned (.tuple #[.slice none 0 0, .bool false])) ∨ (goodP ps = true ∧ ∃ a n c, e = .returned (.tuple #[.slice a n c, .bool true]) ∧ n = (runsP ps).length ∧ NROwn W base (.slice a n c) (runsP ps))

set_option maxRecDepth 100000 in
set_option maxHeartbeats 1600000 in
theorem runs_any (l : List UInt8) (hl : l.length ≤ 400) (w : World) :
    Calls Tryz.prog 17 #[Str l] w fun e w' => RsTold w' w.heap.size (pcs 44 l) e ∧ Below w.heap.size w w' := by
  have hs := split_any 44 l (by omega) w
  have hpl := pcs_len 44 l
  obtain ⟨ps, hps⟩ : ∃ ps, ps = pcs 44 l := ⟨_, rfl⟩
  rw [← hps] at hs hpl ⊢
  obtain ⟨hp1, hp2⟩ := hpl
  replace hps := hid hps
  obtain ⟨k, hk⟩ : ∃ k, k = ps.length := ⟨_, rfl⟩
  rw [← hk] at hs
  have hcell : ∀ (wr : World) (j : Nat), Below (w.alloc (.cells (ps.map Str).toArray 9)).heap.size (w.alloc (.cells (ps.map Str).toArray 9)) wr → (h : j < k) → wr.cell? ⟨w.heap.size, j, none⟩ = some (Str (txtAt ps j)) := by
    intro wr j hb hj
    refine stay hb ?_
    rw [World.cell?_alloc_at _ _ _ _ rfl]
    rw [hk] at hj
    simp [List.getElem?_map, hj, txtAt]
  have B0 := below_lit w (.cells (ps.map Str).toArray 9)
  have hlt0 : w.heap.size < (w.alloc (.cells (ps.map Str).toArray 9)).heap.size := by rw [size_lit]; omega
  obtain ⟨W0, hW0⟩ : ∃ W0, W0 = w.alloc (.cells (ps.map Str).toArray 9) := ⟨_, rfl⟩
  rw [← hW0] at hs hcell B0 hlt0
  have hsize : W0.heap.size = w.heap.size + 1 := by rw [hW0]; exact size_lit _ _
  replace hW0 := hid hW0
  have hk2 : k ≤ 401 := by omega
  replace hk := hid hk
  replace hcell := hid hcell
  obtain ⟨i0, hi0, hz0, hz1, hz2⟩ := info_parts info50
  go_enter Tryz.func17, Tryz.ntmps17
  go_wp2_with fail
  refine hs.mono ?_
  rintro e W1 ⟨rfl, rfl⟩
  go_wp2_with fail
  go_loopw [4, 12] (fun v i wr => ∃ (j : Nat) (rs : List Run) (a : Option Addr) (n c : Nat), j ≤ k ∧ i = .int .i64 (j : Int) ∧ v = .slice a n c ∧ Hid (n = rs.length) ∧ n = j ∧ NROwn wr w.heap.size v rs ∧ (∀ x, v.ownBlock = some x → W1.heap.size ≤ x) ∧ Hid (RI ps j rs) ∧ Below W1.heap.size W1 wr) (fun _ i _ => k - (intOf i).toNat)
  case atStart => exact ⟨0, [], none, 0, 0, Nat.zero_le _, rfl, rfl, hid rfl, rfl, NROwn.nil _ _, (fun x h => by cases h), hid (RI.start ps), Below.refl _ _⟩
  case round =>
    obtain ⟨j, rs, a, n, c, hj, rfl, rfl, hn, rfl, hown, hoff, hri, hb⟩ := hrel
    by_cases hlt : n < k
    · have x0 := hcell.out wr n hb hlt
      have hnp : n < ps.length := by rw [← hk.out]; exact hlt
      have hpl : (txtAt ps n).length ≤ l.length := hp2 _ (by rw [← txtAt_eq hnp]; exact List.getElem_mem hnp)
      have kr := fun w => run_any (txtAt ps n) (by omega) w
      have hnext := fun h => RI.next hri.out hnp h
      have hno := fun h => good_no hnp h
      obtain ⟨p, hp⟩ : ∃ p, p = txtAt ps n := ⟨_, rfl⟩
      rw [← hp] at x0 kr hnext hno
      clear hpl
      replace hp := hid hp
      obtain ⟨r, ok, hr⟩ : ∃ r ok, runV p = (r, ok) := ⟨_, _, rfl⟩
      rw [hr] at kr hnext hno
      simp only at kr hnext hno
      obtain ⟨ra, rb, rd⟩ := r
      simp only [rc] at kr
      replace hr := hid hr
      have hsz : w.heap.size < wr.heap.size := by have := hb.size; omega
      cases ok
      · have hbad := hid (hno rfl)
        clear hnext hno
        go_wp2_with fail
        refine (kr _).mono ?_
        rintro e w2 ⟨rfl, hb2⟩
        go_wp2
        go_ret2
        exact ⟨.inl ⟨hbad.out, rfl⟩, bnext (bnext B0 hb) (bnext hb2 (below_lit _ _))⟩
      · have hnx := hid (hnext rfl)
        clear hnext hno
        go_wp2_with fail
        refine (kr _).mono ?_
        rintro e w2 ⟨rfl, hb2⟩
        have B2 := bnext hb hb2
        have bl1 := below_lit w2 (.cells #[.int .i64 (ra : Int), .int .i64 (rb : Int), .int .i64 (rd : Int)] 64)
        have bl2 := below_lit (w2.alloc (.cells #[.int .i64 (ra : Int), .int .i64 (rb : Int), .int .i64 (rd : Int)] 64)) (.cells #[.int .i64 (ra : Int), .int .i64 (rb : Int), .int .i64 (rd : Int)] 64)
        have B4 := bnext hb2 (bnext bl1 bl2)
        have hown4 : NROwn ((w2.alloc (.cells #[.int .i64 (ra : Int), .int .i64 (rb : Int), .int .i64 (rd : Int)] 64)).alloc (.cells #[.int .i64 (ra : Int), .int .i64 (rb : Int), .int .i64 (rd : Int)] 64)) w.heap.size (.slice a n c) rs := hown.below B4
        unfold NROwn at hown4
        rw [← hn.out] at hown4
        replace hown4 := hid hown4
        have hcl := cat_lit (w2.alloc (.cells #[.int .i64 (ra : Int), .int .i64 (rb : Int), .int .i64 (rd : Int)] 64)) 64 [.int .i64 (ra : Int), .int .i64 (rb : Int), .int .i64 (rd : Int)] _ rfl
        rw [size_lit] at hcl
        replace hcl := hid hcl
        have hone := hid (rc_one (ra, rb, rd))
        have hbase : w.heap.size ≤ ((w2.alloc (.cells #[.int .i64 (ra : Int), .int .i64 (rb : Int), .int .i64 (rd : Int)] 64)).alloc (.cells #[.int .i64 (ra : Int), .int .i64 (rb : Int), .int .i64 (rd : Int)] 64)).heap.size := by have := B4.size; omega
        have hmax : n + 1 ≤ maxLen := by unfold maxLen; omega
        go_wp2_with (refine wpList_cat _ rfl (.tmp 23) (.tmp 25) 52 rfl w.heap.size 64 i0 _ 3 24 Tryz.underlying52 hi0 hz0 hz1 hz2 rfl (by omega) (.slice a n c) n (rs.flatMap rc) rfl hown4.out (some ⟨w2.heap.size + 1, 0, none⟩) 1 1 _ rfl rfl hcl.out hone.out hmax (by omega) hbase ?_)
        intro v7 w7 hr7 hg7 hv7
        obtain ⟨a7, c7, e7, hc7⟩ := owns_form hr7
        subst e7
        have hb7 : Below W1.heap.size W1 w7 := (hb.trans (B4.mono hb.size)).trans ((Kp.grown hg7).below (fun x hx => hoff x hx) (Nat.le_trans hb.size B4.size))
        have hoff7 : ∀ x, (Value.slice a7 (n + 1) c7).ownBlock = some x → W1.heap.size ≤ x := fun x hx => by
          rcases hv7 with h | h
          · exact hoff x (h.symm.trans hx)
          · rw [hx] at h
            have := Nat.le_trans hb.size hb2.size
            simp only [Option.some.injEq] at h
            omega
        have hown7 : NROwn w7 w.heap.size (.slice a7 (n + 1) c7) (rs ++ [(ra, rb, rd)]) := by
          unfold NROwn
          rw [List.flatMap_append, List.length_append, List.length_singleton, ← hn.out]
          exact hr7
        have hlen7 := hid (show n + 1 = (rs ++ [(ra, rb, rd)]).length by rw [List.length_append, List.length_singleton, ← hn.out])
        replace hr7 := hid hr7
        go_wp2_with fail
        go_roundw
        case rel => exact ⟨n + 1, rs ++ [(ra, rb, rd)], a7, n + 1, c7, by omega, by go_num, rfl, hlen7, rfl, hown7, hoff7, hnx, hb7⟩
        case measure => simp [intOf]; omega
    · have hje : n = k := by omega
      obtain ⟨hfin, hgd⟩ := RI.all (by have := hri.out; rw [hje, hk.out] at this; exact this)
      replace hfin := hid hfin
      replace hgd := hid hgd
      subst hje
      go_wp2
      go_ret2
      refine ⟨.inr ⟨hgd.out, a, n, c, rfl, by rw [← hfin.out]; exact hn.out, by rw [← hfin.out]; exact hown⟩, bnext B0 hb⟩
end Go.Proofs.YtomdghodbkhkaaaGreatDoor
