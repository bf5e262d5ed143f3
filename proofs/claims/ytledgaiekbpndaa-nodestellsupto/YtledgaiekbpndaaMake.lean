/- A list of nodes in new memory; the cores of each; new nodes; one that fails, one that rises. -/
import Derived.Test.YtledgaiekbpndaaRight
namespace Go.Proofs.Ytledgaiekbpndaa
open Go.RowKit

theorem run_copy_rowk {P : Program} (w : World) (dT sT ty elem : TypeId) (k g o dLen dCap : Nat) (a : Addr) (sLen sCap : Nat) (cur : Array Value) (t : TypeId) (cs : List Value)
    (hu : P.underlying dT = some (.slice elem)) (hs : (P.info? elem).map (·.size) = some k) (hg : w.heap[g]? = some (.cells cur t (0, 0))) (hn : cs.length = Nat.min sLen dLen * k)
    (hsrc : ∀ j v, cs[j]? = some v → w.cell? (a.add j) = some v) (hfit : o + cs.length ≤ cur.size) (h1 : ∀ v ∈ cs, v.oneCell' = true) :
    (Builtin.copy_ #[dT, sT] ty #[.slice (some ⟨g, o, none⟩) dLen dCap, .slice (some a) sLen sCap]).run P w = .ok (goInt (Nat.min sLen dLen)) (w.setRow g (cur.toList.take o ++ cs ++ cur.toList.drop (o + cs.length)).toArray) := by
  have hl := run_loadCells_list (P := P) w a cs hsrc
  have hst := run_storeCells_at P g o t cs 0 cur w hg (by simpa using hfit) h1
  rw [Nat.add_zero] at hst
  rw [hn] at hl
  cases hq : P.info? elem with
  | none => simp [hq] at hs
  | some i =>
    have hi : i.size = k := by simpa [hq] using hs
    simp [Builtin.copy_, run_underlying hu, Builtin.lenOf, Builtin.firstCells, sizeOf, typeInfo, hq, hi, hl, hst]

theorem size38 : (Try.prog.info? 38).map (·.size) = some 3 := by kernel_rfl

/-- 'copy' of a whole list of nodes over a row of as many. -/
theorem copy_run (w : World) (base g n c : Nat) (xs : List Value) (a : Option Addr) (L : List Nod) (hn : L.length = n) (h : w.ownsRow base 38 3 (.slice (some ⟨g, 0, none⟩) n n) n xs) (hat : DAt w a L) :
    ∃ w2, (Builtin.copy_ #[23, 23] 3 #[.slice (some ⟨g, 0, none⟩) n n, .slice a n c]).run Try.prog w = .ok (goInt n) w2 ∧ DOwn w2 base (.slice (some ⟨g, 0, none⟩) n n) L ∧ Below base w w2 := by
  subst hn
  cases a with
  | none =>
    have he : L = [] := by
      rcases L with _ | ⟨x, r⟩
      · rfl
      · obtain ⟨b, o, h, _⟩ := hat (by simp [nc]); cases h
    subst he
    refine ⟨w, ?_, ?_, Below.refl _ _⟩
    · obtain ⟨i0, hi, hz0, hz1, hz2⟩ := info_parts info38
      simp [Builtin.copy_, run_underlying Try.underlying23, Builtin.lenOf, Builtin.firstCells, sizeOf, typeInfo, hi, storeCells]
    · have : xs = [] := List.eq_nil_of_length_eq_zero (by rw [h.1]; rfl)
      subst this
      exact h
  | some x =>
    rcases h.2 with ⟨hv, hn⟩ | ⟨g', cap, cur, hv, hb, hg, hc, hm, hs, ht⟩
    · cases hv
    · simp only [Value.slice.injEq, Option.some.injEq, Addr.mk.injEq] at hv
      obtain ⟨⟨rfl, _, _⟩, _, rfl⟩ := hv
      have hrun := run_copy_rowk (P := Try.prog) w 23 23 3 38 3 g 0 L.length L.length x L.length c cur 38 (L.flatMap nc) Try.underlying23 size38 hg (by rw [nc_len]; simp) (CAt.src hat) (by rw [nc_len, hs]; omega) (nc_one L)
      have hall : cur.toList.take 0 ++ L.flatMap nc ++ cur.toList.drop (0 + (L.flatMap nc).length) = L.flatMap nc := by
        rw [List.drop_of_length_le (by rw [nc_len, Array.length_toList, hs]; omega)]
        simp
      rw [hall, show Nat.min L.length L.length = L.length from Nat.min_self _] at hrun
      refine ⟨_, hrun, ⟨nc_len L, .inr ⟨g, L.length, (L.flatMap nc).toArray, rfl, hb, setRow_heap w g cur _ 38 _ hg, hc, hm, ?_, ?_⟩⟩, ?_⟩
      · rw [List.size_toArray]; exact nc_len L
      · rw [List.toList_toArray, ← nc_len, List.take_length]
      · exact ⟨rfl, rfl, rfl, by simp [World.setRow], fun k hk => setRow_other w g k _ (by omega)⟩

set_option maxHeartbeats 400000 in
theorem copied_any (a : Option Addr) (n c : Nat) (L : List Nod) (w : World) (hn : L.length = n) (hl : n * 24 ≤ 140737488355328) (hat : DAt w a L) :
    Calls Try.prog 27 #[.slice a n c] w fun e w' => ∃ g, e = .returned (.slice (some ⟨g, 0, none⟩) n n) ∧ DOwn w' w.heap.size (.slice (some ⟨g, 0, none⟩) n n) L ∧ Below w.heap.size w w' := by
  obtain ⟨i0, hi, hz0, hz1, hz2⟩ := info_parts info38
  replace hn := hid hn
  replace hat := hid hat
  go_enter Try.func27, Try.ntmps27
  go_wp2_with (at_make; refine wpList_make_full _ rfl (.tmp 5) (.tmp 5) 23 rfl w.heap.size 38 i0 _ 3 Try.underlying23 hi hz0 hz1 .i64 .i64 _ _ n rfl rfl (by omega) (by omega) (by rw [hz2]; omega) (by unfold maxLen; omega) (Nat.le_refl _) ?_; intro w1 hown hgrow; have hb1 := (Below.refl _ _).grown hgrow (Nat.le_refl _) (fun k hk => by cases hk); obtain ⟨w2, hrun, hrow2, hb2⟩ := copy_run w1 w.heap.size w.heap.size n c _ a L hn.out hown (hat.out.below hb1); clear hown hgrow)
  go_ret
  exact ⟨_, rfl, hrow2, hb1.trans hb2⟩

def coresP (L : List Nod) : List Int := L.map (·.1)

theorem set_zero (L : List Int) (x : Int) (r : List Int) : (L ++ (0 : Int) :: r).set L.length x = L ++ x :: r := by simp

theorem made_ints (n : Nat) : (madeCells (Value.int .i64 0).cells (n * 1)).toList = (List.replicate n (0 : Int)).map I := by
  simp [madeCells, Value.cells, I]
  apply List.ext_getElem
  · simp
  · intro i h1 h2
    simp [Nat.mod_one]

set_option maxRecDepth 100000 in
set_option maxHeartbeats 400000 in
theorem cores_any (a : Option Addr) (n c : Nat) (L : List Nod) (w : World) (hn : L.length = n) (hl : n * 24 ≤ 140737488355328) (hat : DAt w a L) :
    Calls Try.prog 19 #[.slice a n c] w fun e w' => ∃ g, e = .returned (.slice (some ⟨g, 0, none⟩) n n) ∧ CAt w' (some ⟨g, 0, none⟩) ((coresP L).map I) ∧ Below w.heap.size w w' := by
  obtain ⟨i0, hi, hz0, hz1, hz2⟩ := info_parts info3
  replace hn := hid hn
  replace hat := hid hat
  go_enter Try.func19, Try.ntmps19
  go_wp2_with (at_make; refine wpList_make_full _ rfl (.tmp 7) (.tmp 7) 22 rfl w.heap.size 3 i0 _ 1 Try.underlying22 hi hz0 hz1 .i64 .i64 _ _ n rfl rfl (by omega) (by omega) (by rw [hz2]; omega) (by unfold maxLen; omega) (Nat.le_refl _) ?_; intro w1 hown hgrow; have hb1 := (Below.refl _ _).grown hgrow (Nat.le_refl _) (fun k hk => by cases hk); rw [made_ints] at hown; replace hown := hid hown; clear hgrow)
  go_loopw [11] (fun i wr => ∃ j : Nat, j ≤ n ∧ i = .int .i64 (j : Int) ∧ Hid (wr.ownsRow w.heap.size 3 1 (.slice (some ⟨w.heap.size, 0, none⟩) n n) n (((coresP L).take j ++ List.replicate (n - j) 0).map I)) ∧ Below w.heap.size w wr) (fun i _ => n - (intOf i).toNat)
  case atStart => exact ⟨0, Nat.zero_le _, rfl, by simpa using hown, hb1⟩
  case round =>
    obtain ⟨j, hj, rfl, ho, hb⟩ := hrel
    by_cases hlt : j < n
    · have hjL : j < L.length := by rw [hn.out]; exact hlt
      obtain ⟨b, o, e⟩ := hat.out.place (by omega)
      subst e
      obtain ⟨x0, x1, x2⟩ := (hat.out.below hb).one hjL
      have hsz := hb.size
      have bl := below_lit wr (.cells #[.int .i64 (nodAt L j).1, .bool (nodAt L j).2.1, .int .i64 (nodAt L j).2.2] 38)
      have ho2 := owns_below ho.out bl
      obtain ⟨g, c', e, _, hgl, _, hfz⟩ := owns_spot ho2 (by omega)
      simp only [Value.slice.injEq, Option.some.injEq, Addr.mk.injEq] at e
      obtain ⟨⟨e, _, _⟩, _, _⟩ := e
      subst e
      have hput := owns_put ho2 (i := j) (by omega) (.int .i64 (nodAt L j).1)
      have hset : (((coresP L).take j ++ List.replicate (n - j) 0).map I).set j (.int .i64 (nodAt L j).1) = ((coresP L).take (j + 1) ++ List.replicate (n - (j + 1)) 0).map I := by
        have hjc : j < (coresP L).length := by simp [coresP]; exact hjL
        have hlen : ((coresP L).take j).length = j := by rw [List.length_take]; omega
        have hv : (coresP L)[j] = (nodAt L j).1 := by rw [← nodAt_eq hjL]; simp [coresP]
        rw [take_more hjc, hv, show n - j = (n - (j + 1)) + 1 by omega, List.replicate_succ]
        rw [show Value.int .i64 (nodAt L j).1 = I (nodAt L j).1 from rfl, ← List.map_set]
        congr 1
        conv => lhs; rw [← hlen]
        rw [hlen]
        have := set_zero ((coresP L).take j) (nodAt L j).1 (List.replicate (n - (j + 1)) 0)
        rw [hlen] at this
        rw [this]
        simp
      rw [hset] at hput
      have hcell := hfz j
      have hB2 := Below.setCell (p := ⟨w.heap.size, j, none⟩) (bnext hb bl) (Nat.le_refl _) (.int .i64 (nodAt L j).1)
      clear hset
      replace hput := hid hput
      replace ho2 := hid ho2
      have hcur : ∃ v, (wr.alloc (.cells #[.int .i64 (nodAt L j).1, .bool (nodAt L j).2.1, .int .i64 (nodAt L j).2.2] 38)).cell? ⟨w.heap.size, j, none⟩ = some v := by
        have hc := owns_cat ho2.out
        have hlen : (((coresP L).take j ++ List.replicate (n - j) 0).map I).length = n := by
          have hjc : (coresP L).length = n := by simp [coresP]; exact hn.out
          simp; omega
        obtain ⟨b', o', e, h⟩ := hc (by intro e; rw [e] at hlen; simp at hlen; omega)
        cases e
        have := h j (by rw [hlen]; exact hlt)
        rw [Nat.zero_add] at this
        exact ⟨_, this⟩
      obtain ⟨v0, hcur⟩ := hcur
      generalize nodAt L j = X at *
      obtain ⟨X0, X1, X2⟩ := X
      dsimp only at *
      clear hfz
      have hne : ¬ wr.heap.size = w.heap.size := by
        have := (owns_spot ho.out (by omega))
        obtain ⟨g, c', e, _, hgl, _, _⟩ := this
        simp only [Value.slice.injEq, Option.some.injEq, Addr.mk.injEq] at e
        obtain ⟨⟨e, _, _⟩, _, _⟩ := e
        omega
      go_wp2_with fail
      go_roundw
      case rel => exact ⟨j + 1, by omega, by go_num, hput, hB2⟩
      case measure => simp [intOf]; omega
    · have hje : j = n := by omega
      subst hje
      have hfin : ((coresP L).take j ++ List.replicate (j - j) 0) = coresP L := by
        rw [Nat.sub_self, List.replicate_zero, List.append_nil, ← hn.out, show L.length = (coresP L).length by simp [coresP], List.take_length]
      rw [hfin] at ho
      go_wp2
      go_ret
      exact ⟨_, rfl, owns_cat ho.out, hb⟩

end Go.Proofs.Ytledgaiekbpndaa
