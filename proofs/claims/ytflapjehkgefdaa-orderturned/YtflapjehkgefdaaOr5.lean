/- order: Queue. -/
import Derived.Test.YtflapjehkgefdaaOr4
import Derived.Test.YtflapjehkgefdaaOrd
namespace Go.Proofs.Ytflapjehkgefdaa
open Go.RowKit
set_option linter.unusedVariables false
set_option linter.unusedSimpArgs false

theorem perm_map_inv {α β : Type} (f : α → β) {S T : List β} (h : S.Perm T) : ∀ {l : List α}, T = l.map f → ∃ l' : List α, l'.Perm l ∧ S = l'.map f := by
  induction h with
  | nil =>
    intro l e
    cases l with
    | nil => exact ⟨[], List.Perm.nil, rfl⟩
    | cons => cases e
  | cons x _ ih =>
    intro l e
    cases l with
    | nil => cases e
    | cons y t =>
      injection e with e1 e2
      obtain ⟨l', hp, hs⟩ := ih e2
      exact ⟨y :: l', hp.cons y, by rw [hs, e1]; rfl⟩
  | swap x y t =>
    intro l e
    match l, e with
    | u :: v :: r, e =>
      injection e with e1 e2
      injection e2 with e2 e3
      exact ⟨v :: u :: r, List.Perm.swap _ _ _, by rw [e1, e2, e3]; rfl⟩
  | trans _ _ ih1 ih2 =>
    intro l e
    obtain ⟨l2, hp2, e2⟩ := ih2 e
    obtain ⟨l1, hp1, e1⟩ := ih1 e2
    exact ⟨l1, hp1.trans hp2, e1⟩

/-- Is it pending? -/
def pend (J : Job) : Bool := decide (J.st = 1)
/-- A job's priority for the queue. -/
def prQ (Z : List Int) (M : List (Prt × List ByteArray)) (A : List Acc) (Q : List Qu) (pol : Int) (J : Job) : Int := (prioP Z M A Q pol J.s.qos J.s.part).1
theorem ahead_plz (Z : List Int) (M : List (Prt × List ByteArray)) (A : List Acc) (Q : List Qu) (pol : Int) (a b : Job) : ltOf cfP (plzP Z M A Q pol a) (plzP Z M A Q pol b) = aheadB (prQ Z M A Q pol) (·.id) a b := by
  rw [lt_cf]; rfl
theorem isq_of {Z : List Int} {M : List (Prt × List ByteArray)} {A : List Acc} {Q : List Qu} {pol : Int} {L : List Job} {S : List Plc} (hp : S.Perm ((L.filter pend).map (plzP Z M A Q pol))) (hs : S.Pairwise (fun a b => ltOf cfP b a = false)) :
    IsQ (prQ Z M A Q pol) (·.id) pend L (S.map (·.2)) := by
  obtain ⟨l', hl, rfl⟩ := perm_map_inv _ hp rfl
  refine ⟨l', hl, ?_, ?_⟩
  · rw [List.pairwise_map] at hs
    exact hs.imp fun {a b} h => by rw [ahead_plz, ahead_no] at h; exact h
  · rw [List.map_map]; rfl

/-- What Queue tells. -/
def QueT (pr : Job → Int) (L : List Job) (w : World) (e : Ending) (w' : World) : Prop :=
  ∃ ra rc q, e = .returned (.slice ra (List.length q) rc) ∧ IsQ pr (·.id) pend L q ∧ IAt w' ra q ∧ List.length q ≤ rc ∧ Below w.heap.size w w'

theorem filter_take {L : List Job} {j : Nat} (h : j < L.length) : (L.take (j + 1)).filter pend = (L.take j).filter pend ++ (if pend (jobAt L j) then [jobAt L j] else []) := by
  rw [take_more h, List.filter_append, jobAt_eq h, List.filter_cons]
  rfl
set_option maxRecDepth 100000 in
set_option maxHeartbeats 2000000 in
theorem queue_any (ca pa aa qa : Option Addr) (cn cc pn pc ak az qk qc : Nat) (pol : Int) (Z : List Int) (M : List (Prt × List ByteArray)) (A : List Acc) (Q : List Qu) (a : Option Addr) (k c : Nat) (L : List Job) (w : World) (hC0 : CfR w ca pa aa qa cn pn ak az qk Z M A Q) (hn : L.length = k) (hl : k ≤ 100000) (hat0 : JAt w a L) :
    Calls Try.prog 7 #[.agg #[.slice ca cn cc, .slice pa pn pc, .slice aa ak az, .slice qa qk qc, .int .u8 pol], .slice a k c] w (QueT (prQ Z M A Q pol) L w) := by
  obtain ⟨i0, hi, hz0, hz1, hz2⟩ := info_parts info53
  obtain ⟨i3, hi3, hy0, hy1, hy2⟩ := info_parts info3
  obtain ⟨W1, hW1⟩ : ∃ W1, W1 = w.alloc (.cells #[.slice ca cn cc, .slice pa pn pc, .slice aa ak az, .slice qa qk qc, .int .u8 pol] 28) := ⟨_, rfl⟩
  have b1 : Below w.heap.size w W1 := by rw [hW1]; exact below_lit _ _
  have hrowC : W1.heap[w.heap.size]? = some (.cells #[.slice ca cn cc, .slice pa pn pc, .slice aa ak az, .slice qa qk qc, .int .u8 pol] 28 (0, 0)) := by rw [hW1]; exact heap_alloc_new w _
  have hsz1 : W1.heap.size = w.heap.size + 1 := by rw [hW1, size_lit]
  have hC := hid (hC0.below b1)
  have hat := hid (hat0.below b1)
  clear hC0 hat0
  generalize hgS : w.heap.size = gS at *
  replace hgS := hid hgS
  replace hrowC := hid hrowC
  replace hsz1 := hid hsz1
  replace hn := hid hn
  replace b1 := hid b1
  replace hW1 := hid hW1
  go_enter Try.func7, Try.ntmps7
  go_upto_region 1 with fail
  rw [← hW1.out, hgS.out]
  go_wp2_with fail
  go_loopw [5, 13] (fun v i wr => ∃ j : Nat, j ≤ k ∧ i = .int .i64 (j : Int) ∧ Hid (wr.ownsRow W1.heap.size 40 17 v ((L.take j).filter pend).length (((L.take j).filter pend).flatMap jc)) ∧ Below W1.heap.size W1 wr) (fun _ i _ => k - (intOf i).toNat)
  case atStart => exact ⟨0, Nat.zero_le _, rfl, hid (World.ownsRow_nil _ _ _ _), Below.refl _ _⟩
  case round =>
    obtain ⟨j, hj, rfl, hown, hb⟩ := hrel
    obtain ⟨va, vc, e, hvc⟩ := owns_form hown.out
    subst e
    have hlenD : Hid (((L.take j).filter pend).length ≤ j) := hid (by have := List.length_filter_le pend (L.take j); have := List.length_take (i := j) (l := L); omega)
    by_cases hlt : j < k
    · have hjL : j < L.length := by rw [hn.out]; exact hlt
      obtain ⟨b, o, e⟩ := hat.out.place (by omega)
      subst e
      have hcj := hid ((hat.out.below hb).range hjL)
      have hnext := hid (filter_take hjL)
      generalize (L.take j).filter pend = D at *
      obtain ⟨n, hnD⟩ : ∃ n, D.length = n := ⟨_, rfl⟩
      rw [hnD] at hown hvc hlenD ⊢
      replace hnD := hid hnD
      have hnj := hlenD.out
      generalize jobAt L j = J at *
      have bl := below_lit wr (.cells (jc J).toArray 40)
      have B0 := bnext hb bl
      have hrow := heap_alloc_new wr (.cells (jc J).toArray 40)
      have hst : (wr.alloc (.cells (jc J).toArray 40)).cell? ⟨wr.heap.size, 11, none⟩ = some (.int .u8 J.st) := row_cell hrow 11 _ rfl
      replace hrow := hid hrow
      have hown1 := hid (owns_below hown.out bl)
      by_cases hp : J.st = 1
      · have hpn : Hid ((L.take (j + 1)).filter pend = D ++ [J]) := hid (by rw [hnext.out, if_pos (show pend J = true from decide_eq_true hp)])
        have dst : (J.st == 1) = true := by rw [hp]; rfl
        replace hp := hid hp
        have hcat0 := cat_lit (wr.alloc (.cells (jc J).toArray 40)) 40 (jc J) (jc J).toArray rfl
        rw [size_lit] at hcat0
        have hcat := hid hcat0
        clear hcat0
        have hone := hid (jc_one J)
        have bl2 := below_lit (wr.alloc (.cells (jc J).toArray 40)) (.cells (jc J).toArray 40)
        have B2 := bnext B0 bl2
        have hown2 := hid (owns_below hown1.out bl2)
        clear bl bl2
        go_upto_region 5 with (first
          | (refine wpList_load_mid rfl 40 (.tmp 15) rfl b (o + j * 17) rfl (jc J) _ hcj.out Try.underlying40 rfl (by kernel_rfl) ?_)
          | (refine wpList_store_row rfl 40 (.tmp 7) (.tmp 16) rfl wr.heap.size (jc J).toArray rfl rfl 40 _ (heap_alloc_new wr _) (by kernel_rfl) rfl (jc_all _) ?_; rw [alloc_setRow]))
        go_wp2_with (first
          | (refine wpList_load_row rfl 40 (.tmp 7) rfl wr.heap.size rfl 40 (jc J).toArray (0, 0) _ hrow.out Try.underlying40 rfl (by kernel_rfl) ?_)
          | (refine wpList_one rfl 29 40 (.tmp 21) rfl (jc J).toArray 17 i0 _ Try.underlying29 hi hz0 hz1 (by omega) (by omega) rfl rfl ?_)
          | (at_builtin; refine Hid.out ?_))
        refine wpList_cat _ rfl (.tmp 20) (.tmp 22) 29 rfl W1.heap.size 40 i0 _ 17 184 Try.underlying29 hi hz0 hz1 hz2 rfl (by omega) _ _ _ rfl hown2.out (some ⟨wr.heap.size + 1, 0, none⟩) 1 1 (jc J) rfl rfl hcat.out hone.out (by unfold maxLen; omega) (by omega) B2.size ?_
        intro v' w4 ho4 hg4 hv4
        have hown4 : w4.ownsRow W1.heap.size 40 17 v' (D ++ [J]).length ((D ++ [J]).flatMap jc) := by
          rw [List.length_append, hnD.out]
          simp only [List.flatMap_append]
          have : [J].flatMap jc = jc J := by simp
          rw [this]
          exact ho4
        have B4 : Below W1.heap.size W1 w4 := Below.grown B2 hg4 B2.size (fun j hj => (hown2.out.lt _ hj).1)
        replace hown4 := hid hown4
        clear ho4 hg4 hv4 hcat hst
        go_wp2_with fail
        go_roundw
        case rel => exact ⟨j + 1, by omega, by go_num, hid (by rw [hpn.out]; exact hown4.out), B4⟩
        case measure => simp [intOf]; omega
      · have hpn : Hid ((L.take (j + 1)).filter pend = D) := hid (by rw [hnext.out, if_neg (by unfold pend; simpa using hp), List.append_nil])
        have dst : (J.st == 1) = false := beq_eq_false_iff_ne.2 hp
        replace hp := hid hp
        go_upto_region 5 with (first
          | (refine wpList_load_mid rfl 40 (.tmp 15) rfl b (o + j * 17) rfl (jc J) _ hcj.out Try.underlying40 rfl (by kernel_rfl) ?_)
          | (refine wpList_store_row rfl 40 (.tmp 7) (.tmp 16) rfl wr.heap.size (jc J).toArray rfl rfl 40 _ (heap_alloc_new wr _) (by kernel_rfl) rfl (jc_all _) ?_; rw [alloc_setRow]))
        have hown3 : (wr.alloc (.cells (jc J).toArray 40)).ownsRow W1.heap.size 40 17 (.slice va n vc) D.length (D.flatMap jc) := by rw [hnD.out]; exact hown1.out
        replace hown3 := hid hown3
        clear hcj bl
        go_wp2_with fail
        go_roundw
        case rel => exact ⟨j + 1, by omega, by go_num, hid (by rw [hpn.out]; exact hown3.out), B0⟩
        case measure => simp [intOf]; omega
    · have hje : j = k := by omega
      subst hje
      have hf : Hid (L.take j = L) := hid (by rw [← hn.out, List.take_length])
      rw [hf.out] at hown hvc hlenD ⊢
      obtain ⟨D, hD⟩ : ∃ D, D = L.filter pend := ⟨_, rfl⟩
      rw [← hD] at hown hvc hlenD ⊢
      obtain ⟨n, hnD⟩ : ∃ n, D.length = n := ⟨_, rfl⟩
      rw [hnD] at hown hvc hlenD ⊢
      have hDat : JAt wr va D := owns_cat hown.out
      replace hD := hid hD
      replace hnD := hid hnD
      have hnj := hlenD.out
      have kP := placing_any ca pa aa qa cn cc pn pc ak az qk qc pol Z M A Q wr (hC.out.below hb)
      have hrowC2 := hid (show wr.heap[gS]? = _ from (hb.block _ (by have := hsz1.out; omega)).trans hrowC.out)
      replace hDat := hid hDat
      go_wp2_with (refine wpList_load_row rfl 28 (.tmp 2) rfl gS rfl 28 #[.slice ca cn cc, .slice pa pn pc, .slice aa ak az, .slice qa qk qc, .int .u8 pol] (0, 0) _ hrowC2.out Try.underlying28 rfl (by kernel_rfl) ?_)
      refine kP.mono ?_
      clear kP
      rintro e w2 ⟨⟨fv, rfl, hF⟩, h2⟩
      have kS := sorted_any va n vc D Z M A Q pol fv w2 hnD.out (by omega) (hDat.out.below h2) hF
      have B2 := hid (hb.trans (h2.mono hb.size))
      clear h2 hF
      go_wp2_with fail
      refine kS.mono ?_
      clear kS
      rintro e w3 ⟨sa, sc', S, rfl, hSl, hSp, hSs, hSat, h3⟩
      have B3 := hid (B2.out.trans (h3.mono B2.out.size))
      rw [hnD.out] at hSl ⊢
      have hq : Hid (IsQ (prQ Z M A Q pol) (·.id) pend L (S.map (·.2))) := hid (isq_of (by rw [← hD.out]; exact hSp) hSs)
      replace hSl := hid hSl
      replace hSat := hid hSat
      clear h3 hSp hSs
      go_wp2_with fail
      go_loopw [8, 30] (fun v i wr => ∃ j : Nat, j ≤ n ∧ i = .int .i64 (j : Int) ∧ Hid (IOwn wr w3.heap.size v ((S.take j).map (·.2))) ∧ Below w3.heap.size w3 wr) (fun _ i _ => n - (intOf i).toNat)
      case atStart => exact ⟨0, Nat.zero_le _, rfl, hid (IOwn.nil _ _), Below.refl _ _⟩
      case round =>
        rename World => wr2
        obtain ⟨t, ht, rfl, hown2, hbt⟩ := hrel
        have hlenI : Hid (((S.take t).map (·.2)).length = t) := hid (by rw [List.length_map, List.length_take]; have := hSl.out; omega)
        obtain ⟨xa, xc, e, hxc⟩ := owns_form hown2.out
        subst e
        rw [hlenI.out] at hown2 hxc ⊢
        by_cases hlt2 : t < n
        · have htS : t < S.length := by rw [hSl.out]; exact hlt2
          obtain ⟨b, o, e⟩ := hSat.out.place (by omega)
          subst e
          obtain ⟨x0, x1⟩ := (hSat.out.below hbt).one htS
          have hnext2 : Hid ((S.take (t + 1)).map (·.2) = (S.take t).map (·.2) ++ [(plAt S t).2]) := hid (by rw [take_more htS, List.map_append, plAt_eq htS]; rfl)
          generalize (S.take t).map (·.2) = I at *
          generalize plAt S t = X at *
          obtain ⟨X0, X1⟩ := X
          dsimp only at *
          have bl := below_lit wr2 (.cells #[.int .i64 X0, .int .i64 X1] 59)
          have B5 := bnext hbt bl
          have bl2 := below_lit (wr2.alloc (.cells #[.int .i64 X0, .int .i64 X1] 59)) (.cells #[.int .i64 X1] 3)
          have B6 := bnext B5 bl2
          have hown5 := hid ((hown2.out.below bl).below bl2)
          have hcat0 := cat_lit (wr2.alloc (.cells #[.int .i64 X0, .int .i64 X1] 59)) 3 [.int .i64 X1] #[.int .i64 X1] rfl
          rw [size_lit] at hcat0
          have hcat := hid hcat0
          clear hcat0
          have hone := hid (one_I X1)
          have hown5' : ((wr2.alloc (.cells #[.int .i64 X0, .int .i64 X1] 59)).alloc (.cells #[.int .i64 X1] 3)).ownsRow w3.heap.size 3 1 (.slice xa t xc) t (I.flatMap ic) := by
            have := hown5.out
            unfold IOwn at this
            rw [hlenI.out] at this
            exact this
          replace hown5' := hid hown5'
          clear bl bl2
          go_wp2_with (at_builtin; refine Hid.out ?_)
          refine wpList_cat _ rfl (.tmp 34) (.tmp 37) 22 rfl w3.heap.size 3 i3 _ 1 8 Try.underlying22 hi3 hy0 hy1 hy2 rfl (by omega) _ _ _ rfl hown5'.out (some ⟨wr2.heap.size + 1, 0, none⟩) 1 1 [.int .i64 X1] rfl rfl hcat.out hone.out (by unfold maxLen; omega) (by omega) B6.size ?_
          intro v' w4 ho4 hg4 hv4
          have hown6 : IOwn w4 w3.heap.size v' (I ++ [X1]) := by
            unfold IOwn
            rw [List.length_append, hlenI.out]
            simp only [List.flatMap_append]
            exact ho4
          have B7 : Below w3.heap.size w3 w4 := Below.grown B6 hg4 B6.size (fun j hj => (hown5'.out.lt _ hj).1)
          replace hown6 := hid hown6
          clear ho4 hg4 hv4 hcat
          go_wp2_with fail
          go_roundw
          case rel => exact ⟨t + 1, by omega, by go_num, hid (by rw [hnext2.out]; exact hown6.out), B7⟩
          case measure => simp [intOf]; omega
        · have hte : t = n := by omega
          subst hte
          have hf2 : Hid (S.take t = S) := hid (by rw [← hSl.out, List.take_length])
          rw [hf2.out] at hown2
          go_wp2
          go_ret
          refine ⟨xa, xc, S.map (·.2), by rw [List.length_map, hSl.out]; rfl, hq.out, hown2.out.iat, by rw [List.length_map, hSl.out]; exact hxc, ?_⟩
          rw [hgS.out]
          exact b1.out.trans ((B3.out.trans (hbt.mono B3.out.size)).mono (by have := hsz1.out; omega))
end Go.Proofs.Ytflapjehkgefdaa
