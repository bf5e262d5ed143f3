/- order: sorted. -/
import Derived.Test.YtflapjehkgefdaaOr3
namespace Go.Proofs.Ytflapjehkgefdaa
open Go.RowKit Go.Sort Go.Shelf Go.Lib
set_option linter.unusedVariables false
set_option linter.unusedSimpArgs false

def plAt (L : List Plc) (i : Nat) : Plc := L.getD i (0, 0)
theorem plAt_eq {L : List Plc} {i : Nat} (h : i < L.length) : L[i] = plAt L i := by simp [plAt, h]
def PlAt (w : World) (a : Option Addr) (L : List Plc) : Prop := CAt w a (L.flatMap plc)
def PlOwn (w : World) (base : Nat) (v : Value) (L : List Plc) : Prop := w.ownsRow base 59 2 v L.length (L.flatMap plc)
theorem PlAt.below {w w' : World} {a : Option Addr} {C : List Plc} (h : PlAt w a C) (hb : Below w.heap.size w w') : PlAt w' a C := CAt.below h hb
theorem PlAt.place {w : World} {a : Option Addr} {C : List Plc} (h : PlAt w a C) (h0 : 0 < C.length) : ∃ b o, a = some ⟨b, o, none⟩ := flat_place plc 2 plc_len (by omega) h h0
theorem PlAt.one {w : World} {b o : Nat} {C : List Plc} (h : PlAt w (some ⟨b, o, none⟩) C) {i : Nat} (hi : i < C.length) :
    w.cell? ⟨b, o + i * 2, none⟩ = some (.int .i64 (plAt C i).1) ∧ w.cell? ⟨b, o + i * 2 + 1, none⟩ = some (.int .i64 (plAt C i).2) := by
  have k := fun r hr => flat_cell plc 2 plc_len (by omega) h hi r hr
  have k0 := k 0 (by omega)
  have k1 := k 1 (by omega)
  rw [plAt_eq hi] at k0 k1
  exact ⟨k0, k1⟩
theorem PlOwn.plat {w : World} {base n c : Nat} {a : Option Addr} {C : List Plc} (h : PlOwn w base (.slice a n c) C) : PlAt w a C := owns_cat h
theorem PlOwn.below {w w' : World} {base : Nat} {v : Value} {C : List Plc} (h : PlOwn w base v C) (hb : Below w.heap.size w w') : PlOwn w' base v C := owns_below h hb
theorem PlOwn.nil (w : World) (base : Nat) : PlOwn w base (.slice none 0 0) [] := World.ownsRow_nil _ _ _ _
theorem infoP : (Try.prog.info? 59).map (fun i => (i.zero, i.size, i.bytes)) = some (some (.agg #[.int .i64 0, .int .i64 0]), 2, 16) := by kernel_rfl

theorem arr_pl (l : List Plc) {i : Nat} (h : i < l.length) : l.toArray[i]! = plAt l i := by
  rw [getElem!_pos l.toArray i (by simpa using h)]
  simp [plAt, List.getD, h]
/-- A row of places of the call's own, as the sort wants it. -/
theorem own_holds {w : World} {base g n c : Nat} {l : List Plc} (h : PlOwn w base (.slice (some ⟨g, 0, none⟩) n c) l) : HoldsK plc 2 w g 0 l.toArray := by
  have hat := h.plat
  have hfz : ∀ r, w.frozen? ⟨g, r, none⟩ = false := fun r => by
    rcases h.2 with ⟨e, _⟩ | ⟨g', cap, cur, e, _, hh, _⟩
    · cases e
    · have : g' = g := by injection e with e1 e2 e3; injection e1 with e4; injection e4 with e5; exact e5.symm
      subst this
      exact row_free hh r
  intro j hj
  rw [size_flatK] at hj
  have hj2 : j < l.length * 2 := by simpa using hj
  have hi : j / 2 < l.length := by omega
  rw [get_flatK _ _ _ j hj, arr_pl l hi, Nat.zero_add]
  obtain ⟨h1, h2⟩ := hat.one hi
  rw [Nat.zero_add] at h1 h2
  refine ⟨?_, hfz j⟩
  rcases Nat.mod_two_eq_zero_or_one j with e | e
  · rw [e]
    have : j / 2 * 2 = j := by omega
    rw [this] at h1
    exact h1
  · rw [e]
    have : j / 2 * 2 + 1 = j := by omega
    rw [this] at h2
    exact h2
theorem holds_at {w : World} {g : Nat} {d : Array Plc} (h : HoldsK plc 2 w g 0 d) : ∀ i, i < d.toList.length → w.cell? ⟨g, i * 2, none⟩ = some (.int .i64 (plAt d.toList i).1) ∧ w.cell? ⟨g, i * 2 + 1, none⟩ = some (.int .i64 (plAt d.toList i).2) := by
  intro i hi
  have hd : i < d.size := by simpa using hi
  have h0 := h.cell (i := i) (c := 0) hd (by omega)
  have h1 := h.cell (i := i) (c := 1) hd (by omega)
  have e : d[i]! = plAt d.toList i := by
    have := arr_pl d.toList hi
    simpa using this
  rw [e] at h0 h1
  simp only [Nat.zero_add, Nat.add_zero] at h0 h1
  exact ⟨h0.1, h1.1⟩

theorem plat_of {w : World} {g : Nat} {S : List Plc} (h : ∀ i, i < S.length → w.cell? ⟨g, i * 2, none⟩ = some (.int .i64 (plAt S i).1) ∧ w.cell? ⟨g, i * 2 + 1, none⟩ = some (.int .i64 (plAt S i).2)) : PlAt w (some ⟨g, 0, none⟩) S := by
  intro _
  refine ⟨g, 0, rfl, fun j hj => ?_⟩
  have hlen := flat_len plc 2 plc_len S
  have hi : j / 2 < S.length := by omega
  obtain ⟨h1, h2⟩ := h (j / 2) hi
  have hg := flat_get plc 2 plc_len S (j / 2) (j % 2) hi (by omega)
  have hje : j / 2 * 2 + j % 2 = j := by omega
  rw [hje, List.getElem?_eq_getElem hj, plAt_eq hi] at hg
  rw [Nat.zero_add]
  rcases Nat.mod_two_eq_zero_or_one j with e | e
  · rw [e] at hg
    have : j / 2 * 2 = j := by omega
    rw [this] at h1
    rw [h1]
    exact hg.symm
  · rw [e] at hg
    have : j / 2 * 2 + 1 = j := by omega
    rw [this] at h2
    rw [h2]
    exact hg.symm

set_option maxHeartbeats 400000 in
theorem ins_none (p : Option Addr) (c : Nat) (fv : Value) (w : World) : Calls Try.prog 39 #[.slice p 0 c, .int .i64 0, .int .i64 0, fv] w fun e w' => e = .returned (.tuple #[]) ∧ w' = w := by
  go_enter Try.func39, Try.ntmps39
  go_wp2
  refine wp_loop_rounds 1 ?_
  rw [rounds_succ]
  go_wp2
  go_end0
  exact ⟨rfl, rfl⟩
set_option maxHeartbeats 400000 in
theorem stable_none (p : Option Addr) (c : Nat) (fv : Value) (w : World) : Calls Try.prog 30 #[.slice p 0 c, .int .i64 0, fv] w fun e w' => e = .returned (.tuple #[]) ∧ w' = w := by
  go_enter Try.func30, Try.ntmps30
  go_wp2
  refine wp_loop_rounds 1 ?_
  rw [rounds_succ]
  go_wp2_with (go_at_call 39; refine (ins_none _ _ _ _).mono ?_; rintro e w' ⟨rfl, rfl⟩)
  refine wp_loop_rounds 1 ?_
  rw [rounds_succ]
  go_wp2
  go_end0
  exact ⟨rfl, rfl⟩
theorem sort_none (p : Option Addr) (c : Nat) (fv : Value) (w : World) : Calls Try.prog 20 #[.slice p 0 c, fv] w fun e w' => e = .returned (.tuple #[]) ∧ w' = w := by
  go_enter Try.func20, Try.ntmps20
  go_wp2_with (go_at_call 30; refine (stable_none _ _ _ _).mono ?_; rintro e w' ⟨rfl, rfl⟩)
  go_end0
  exact ⟨rfl, rfl⟩

/-- What sorted tells: the places of L, those ahead first. -/
def SrtT (f : Job → Plc) (L : List Job) (w : World) (e : Ending) (w' : World) : Prop :=
  ∃ ra rc S, e = .returned (.slice ra L.length rc) ∧ S.length = L.length ∧ S.Perm (L.map f) ∧ S.Pairwise (fun a b => ltOf cfP b a = false) ∧ PlAt w' ra S ∧ Below w.heap.size w w'

set_option maxRecDepth 100000 in
set_option maxHeartbeats 1000000 in
theorem sorted_any (a : Option Addr) (k c : Nat) (L : List Job) (Z : List Int) (M : List (Prt × List ByteArray)) (A : List Acc) (Q : List Qu) (pol : Int) (fv : Value) (w : World) (hn : L.length = k) (hl : k ≤ 1000000) (hat : JAt w a L) (hF : PlzF Z M A Q pol w fv) :
    Calls Try.prog 15 #[.slice a k c, fv] w (SrtT (plzP Z M A Q pol) L w) := by
  obtain ⟨i0, hi, hz0, hz1, hz2⟩ := info_parts infoP
  obtain ⟨gF, rfl, _, hcall⟩ := hF
  obtain ⟨f, hf⟩ : ∃ f, f = plzP Z M A Q pol := ⟨_, rfl⟩
  rw [← hf]
  have hcall := hid fun (w' : World) (hb : Below w.heap.size w w') (J : Job) => show Calls Try.prog 21 #[.agg (jc J).toArray, ptr gF] w' fun e w2 => e = .returned (.agg #[.int .i64 (f J).1, .int .i64 (f J).2]) ∧ Below w'.heap.size w' w2 from by rw [hf]; exact hcall w' hb J
  clear hf
  replace hn := hid hn
  replace hat := hid hat
  go_enter Try.func15, Try.ntmps15
  go_wp2_with fail
  go_loopw [5, 10] (fun v i wr => ∃ j : Nat, j ≤ k ∧ i = .int .i64 (j : Int) ∧ Hid (PlOwn wr w.heap.size v ((L.take j).map f)) ∧ Below w.heap.size w wr) (fun _ i _ => k - (intOf i).toNat)
  case atStart => exact ⟨0, Nat.zero_le _, rfl, hid (PlOwn.nil _ _), Below.refl _ _⟩
  case round =>
    obtain ⟨j, hj, rfl, hown, hb⟩ := hrel
    have hlenM : Hid (((L.take j).map f).length = j) := hid (by rw [List.length_map, List.length_take]; have := hn.out; omega)
    obtain ⟨va, vc, e, hvc⟩ := owns_form hown.out
    subst e
    rw [hlenM.out] at hown hvc ⊢
    by_cases hlt : j < k
    · have hjL : j < L.length := by rw [hn.out]; exact hlt
      obtain ⟨b, o, e⟩ := hat.out.place (by omega)
      subst e
      have hcj := hid ((hat.out.below hb).range hjL)
      have hnext : Hid ((L.take (j + 1)).map f = (L.take j).map f ++ [f (jobAt L j)]) := hid (by rw [take_more hjL, List.map_append, jobAt_eq hjL]; rfl)
      generalize (L.take j).map f = D at *
      generalize jobAt L j = J at *
      have bl := below_lit wr (.cells (jc J).toArray 40)
      have B0 := bnext hb bl
      have kC := hcall.out (wr.alloc (.cells (jc J).toArray 40)) B0 J
      have hrow := hid (heap_alloc_new wr (.cells (jc J).toArray 40))
      have hown1 := hid (hown.out.below bl)
      generalize f J = X at *
      obtain ⟨X0, X1⟩ := X
      dsimp only at kC
      have hbd : (j + 1) * 16 ≤ 140737488355328 := by omega
      go_upto_region 5 with (first
        | (refine wpList_load_mid rfl 40 (.tmp 12) rfl b (o + j * 17) rfl (jc J) _ hcj.out Try.underlying40 rfl (by kernel_rfl) ?_)
        | (refine wpList_store_row rfl 40 (.tmp 7) (.tmp 13) rfl wr.heap.size (jc J).toArray rfl rfl 40 _ (heap_alloc_new wr _) (by kernel_rfl) rfl (jc_all _) ?_; rw [alloc_setRow]))
      go_wp2_with (refine wpList_load_row rfl 40 (.tmp 7) rfl wr.heap.size rfl 40 (jc J).toArray (0, 0) _ hrow.out Try.underlying40 rfl (by kernel_rfl) ?_)
      refine kC.mono ?_
      clear kC
      rintro e w1 ⟨rfl, hb1⟩
      have B1 := bnext B0 hb1
      have bl2 := below_lit w1 (.cells #[.int .i64 X0, .int .i64 X1] 59)
      have B2 := bnext B1 bl2
      have hown2 := hid ((hown1.out.below hb1).below bl2)
      have hcat := hid (cat_lit w1 59 [.int .i64 X0, .int .i64 X1] #[.int .i64 X0, .int .i64 X1] rfl)
      have hone := hid (plc_one (X0, X1))
      have hown2' : (w1.alloc (.cells #[.int .i64 X0, .int .i64 X1] 59)).ownsRow w.heap.size 59 2 (.slice va j vc) j (D.flatMap plc) := by
        have := hown2.out
        unfold PlOwn at this
        rw [hlenM.out] at this
        exact this
      replace hown2' := hid hown2'
      clear hcj hb1 bl bl2 hrow hown1
      go_wp2_with (at_builtin; refine Hid.out ?_)
      refine wpList_cat _ rfl (.tmp 14) (.tmp 18) 54 rfl w.heap.size 59 i0 _ 2 16 Try.underlying54 hi hz0 hz1 hz2 rfl (by omega) _ _ _ rfl hown2'.out (some ⟨w1.heap.size, 0, none⟩) 1 1 [.int .i64 X0, .int .i64 X1] rfl rfl hcat.out hone.out (by unfold maxLen; omega) hbd B2.size ?_
      intro v' w4 ho4 hg4 hv4
      have hown4 : PlOwn w4 w.heap.size v' (D ++ [(X0, X1)]) := by
        unfold PlOwn
        rw [List.length_append, hlenM.out]
        simp only [List.flatMap_append]
        exact ho4
      have B4 : Below w.heap.size w w4 := Below.grown B2 hg4 B2.size (fun j hj => (hown2'.out.lt _ hj).1)
      replace hown4 := hid hown4
      clear ho4 hg4 hv4 hcat
      go_wp2_with fail
      go_roundw
      case rel => exact ⟨j + 1, by omega, by go_num, hid (by rw [hnext.out]; exact hown4.out), B4⟩
      case measure => simp [intOf]; omega
    · have hje : j = k := by omega
      subst hje
      have hf : L.take j = L := by rw [← hn.out, List.take_length]
      rw [hf] at hown hlenM
      replace hf := hid hf
      cases va with
      | none =>
        have h0 : Hid (j = 0 ∧ vc = 0) := hid (by
          rcases hown.out.2 with ⟨e, _⟩ | ⟨g', cap, cur, e, _⟩
          · injection e with e1 e2 e3; exact ⟨e2, e3⟩
          · cases e)
        obtain ⟨rfl, rfl⟩ := h0.out
        have hLn : Hid (L = []) := hid (List.eq_nil_of_length_eq_zero hn.out)
        go_wp2_with fail
        refine (sort_none _ _ _ _).mono ?_
        rintro e w5 ⟨rfl, rfl⟩
        go_wp2
        go_ret
        rw [hLn.out]
        exact ⟨none, 0, [], rfl, rfl, List.Perm.nil, List.Pairwise.nil, CAt.nil _ _, hb⟩
      | some y =>
        have hform : Hid (∃ g, y = ⟨g, 0, none⟩ ∧ w.heap.size ≤ g ∧ g < wr.heap.size) := hid (by
          have hbk := owns_blk hown.out
          rcases hown.out.2 with ⟨e, _⟩ | ⟨g', cap, cur, e, h1, _⟩
          · cases e
          · have e2 : y = ⟨g', 0, none⟩ := by injection e with e1 e2 e3; injection e1
            subst e2
            exact ⟨g', rfl, hbk.1, hbk.2⟩)
        obtain ⟨g, rfl, hg1, hg2⟩ := hform.out
        have kS := sort_any g j vc (L.map f) wr hlenM.out (by omega) hg2 (own_holds hown.out)
        go_wp2_with fail
        refine kS.mono ?_
        clear kS
        rintro e w5 ⟨rfl, S, hp, hs, hH, hk5⟩
        have hSl : S.length = L.length := by rw [hp.length_eq, List.length_map]
        have B5 : Below w.heap.size w w5 := hb.trans ⟨hk5.os, hk5.tape, hk5.output, hk5.size, fun i hi => hk5.block i (by have := hb.size; omega) (by omega)⟩
        have hPl : PlAt w5 (some ⟨g, 0, none⟩) S := by
          have h := holds_at hH
          rw [List.toList_toArray] at h
          exact plat_of h
        go_wp2
        go_ret
        rw [hn.out] at hSl
        exact ⟨some ⟨g, 0, none⟩, vc, S, by rw [hn.out]; rfl, by rw [hn.out]; exact hSl, hp, hs, hPl, B5⟩
end Go.Proofs.Ytflapjehkgefdaa
