/- The law OrderQueue. -/
import Derived.Test.YtflapjehkgefdaaBg
namespace Go.Proofs.Ytflapjehkgefdaa
open Go.RowKit Go.Maps
set_option linter.unusedVariables false
set_option linter.unusedSimpArgs false

theorem turned_heap {w w' : World} {m : Nat} (ht : w.mapTurned w' m) {k : Nat} (hne : k ≠ m) : w'.heap[k]? = w.heap[k]? := by
  obtain ⟨es1, c1, es2, c2, hb2, rfl⟩ := ht
  simp only [ChangeMaps.setBlock]
  rw [Array.getElem?_setIfInBounds, if_neg (by omega)]
theorem turned_size {w w' : World} {m : Nat} (ht : w.mapTurned w' m) : w'.heap.size = w.heap.size := by
  obtain ⟨es1, c1, es2, c2, hb2, rfl⟩ := ht
  simp [ChangeMaps.setBlock]
theorem findJ_mem {L : List Job} (hu : Unlike (·.id) L) {J : Job} (hJ : J ∈ L) : findJ L J.id = some J := by
  induction L with
  | nil => cases hJ
  | cons x t ih =>
    unfold Unlike at hu
    have hu' := List.pairwise_cons.1 hu
    unfold findJ
    rw [List.find?_cons]
    rcases List.mem_cons.1 hJ with rfl | h
    · simp
    · have hne : x.id ≠ J.id := hu'.1 J h
      have : (x.id == J.id) = false := beq_eq_false_iff_ne.2 hne
      rw [this]
      exact ih hu'.2 h
theorem findJ_none {L : List Job} {k : Int} (h : findJ L k = none) : ∀ J ∈ L, J.id ≠ k := by
  intro J hJ e
  unfold findJ at h
  have := List.find?_eq_none.1 h J hJ
  simp [e] at this
theorem unlike_snoc {L : List Job} {J : Job} (hu : Unlike (·.id) L) (h : findJ L J.id = none) : Unlike (·.id) (L ++ [J]) := by
  unfold Unlike at *
  rw [List.pairwise_append]
  refine ⟨hu, by simp, fun a ha b hb => ?_⟩
  simp at hb
  subst hb
  exact findJ_none h a ha
theorem cnt_take {L : List Job} {j : Nat} (h : j < L.length) : ((L.take (j + 1)).filter pend).length = ((L.take j).filter pend).length + (if pend (jobAt L j) then 1 else 0) := by
  rw [filter_take h, List.length_append]
  split <;> rfl

/-- What the queue's order says of two of its places. -/
structure QS (pr : Job → Int) (L : List Job) (q : List Int) (S : List Job) : Prop where
  len : q.length = S.length
  id_ : ∀ t, t < S.length → itAt q t = (jobAt S t).id
  mem : ∀ t, t < S.length → jobAt S t ∈ L ∧ pend (jobAt S t) = true
  lt : ∀ u t, u < t → t < S.length → (jobAt S u).id ≠ (jobAt S t).id ∧ aheadB pr (·.id) (jobAt S u) (jobAt S t) = true ∧ aheadB pr (·.id) (jobAt S t) (jobAt S u) = false
theorem qs_of {pr : Job → Int} {L : List Job} {q : List Int} (h : IsQ pr (·.id) pend L q) (hu : Unlike (·.id) L) : ∃ S, QS pr L q S := by
  obtain ⟨S, rfl, hm, hp⟩ := IsQ.ahead pr (·.id) h hu
  refine ⟨S, by simp, fun t ht => ?_, fun t ht => ?_, fun u t hut ht => ?_⟩
  · rw [← itAt_eq (by simpa using ht), ← jobAt_eq ht]; simp
  · rw [← jobAt_eq ht]; exact hm _ (List.getElem_mem ht)
  · have := List.pairwise_iff_getElem.1 hp u t (by omega) ht hut
    rw [← jobAt_eq (show u < S.length by omega), ← jobAt_eq ht]
    exact this
theorem qs_new {pr : Job → Int} {L : List Job} {q : List Int} {S : List Job} (h : QS pr L q S) {t : Nat} (ht : t < S.length) : itAt q t ∉ q.take t := by
  intro hm
  obtain ⟨u, hu, e⟩ := List.getElem_of_mem hm
  have hu2 : u < t := by rw [List.length_take] at hu; omega
  rw [List.getElem_take, itAt_eq (by have := h.len; omega), h.id_ t ht, h.id_ u (by omega)] at e
  exact (h.lt u t hu2 ht).1 e

section
variable {ops : Array Oper} {rest : List Oper} {o : Oper} {a : Act} {w : World} {Q : Exit → Act → World → Prop}
/-- A guarded load of a whole struct. -/
theorem gload_row (j : Nat) (b : Bool) (d0 : Tmp) (hg : o.guard = some (j, b)) (hd0 : (ops[j]?).bind (·.dst) = some d0) (hv : a.tmps.getD d0 undef = .bool b) (ty : TypeId) (x : Operand) (ho : o.op = .load ty x)
    (g : Nat) (hx : a.eval x = .pointer (some ⟨g, 0, none⟩)) (t : TypeId) (cs : Array Value) (fr : Nat × Nat) (fs : Array Field) (hh : w.heap[g]? = some (.cells cs t fr))
    (hu : Try.prog.underlying ty = some (.struct fs)) (hi : (Try.prog.info? ty).map (·.size) = some cs.size)
    (h : wpList Try.prog ops Q rest (a.put o.dst (.agg cs)) w) : wpList Try.prog ops Q (o :: rest) a w :=
  BigFrame.wpList_want (want_g hg hd0 hv) fun _ hK => wp_load_row ty x ho g hx t cs fr _ hh hu rfl hi (hK _ _ h)
end

set_option maxRecDepth 100000 in
set_option maxHeartbeats 2000000 in
theorem queue_law (ca pa aa qa : Option Addr) (cn cc pn pc ak az qk qc : Nat) (pol : Int) (Z : List Int) (M : List (Prt × List ByteArray)) (A : List Acc) (Q : List Qu) (a : Option Addr) (k c : Nat) (L : List Job) (w : World) (hC0 : CfR w ca pa aa qa cn pn ak az qk Z M A Q) (hn : L.length = k) (hat0 : JAt w a L) (hwf : ∀ J ∈ L, (Lit.int .i64 J.id).wf = true) :
    Calls Try.prog 3 #[.agg #[.slice ca cn cc, .slice pa pn pc, .slice aa ak az, .slice qa qk qc, .int .u8 pol], .slice a k c] w fun e w' => e = .returned (.bool true) ∧ Below w.heap.size w w' := by
  obtain ⟨CF, hCF⟩ : ∃ CF, CF = #[Value.slice ca cn cc, .slice pa pn pc, .slice aa ak az, .slice qa qk qc, .int .u8 pol] := ⟨_, rfl⟩
  obtain ⟨W1, hW1⟩ : ∃ W1, W1 = w.alloc (.cells CF 28) := ⟨_, rfl⟩
  have b1 : Below w.heap.size w W1 := by rw [hW1]; exact below_lit _ _
  have hrowC : W1.heap[w.heap.size]? = some (.cells CF 28 (0, 0)) := by rw [hW1]; exact heap_alloc_new w _
  have hsz1 : W1.heap.size = w.heap.size + 1 := by rw [hW1, size_lit]
  have hC := hid (hC0.below b1)
  have hat := hid (hat0.below b1)
  have kB := big_any ca pa aa qa cn cc pn pc ak az qk qc pol a k c W1
  rw [← hCF] at kB
  have kQ := hid fun (W : World) (hb : Below W1.heap.size W1 W) (hk : k ≤ 30) => queue_any ca pa aa qa cn cc pn pc ak az qk qc pol Z M A Q a k c L W (hC.out.below hb) hn (by omega) (hat.out.below hb)
  rw [← hCF] at kQ
  have kA := hid fun (W : World) (hb : Below W1.heap.size W1 W) (J1 J2 : Job) => ahead_any ca pa aa qa cn cc pn pc ak az qk qc pol Z M A Q J1 J2 W (hC.out.below hb)
  rw [← hCF] at kA ⊢
  have hcs : Hid (CF.size = 5) := hid (by rw [hCF]; rfl)
  clear hC0 hat0
  obtain ⟨pr, hpr⟩ : ∃ pr, pr = prQ Z M A Q pol := ⟨_, rfl⟩
  rw [← hpr] at kQ
  have kA2 : Hid (∀ W, Below W1.heap.size W1 W → ∀ J1 J2 : Job, Calls Try.prog 8 #[.agg CF, .agg (jc J1).toArray, .agg (jc J2).toArray] W fun e w' => e = .returned (.bool (aheadB pr (·.id) J1 J2)) ∧ Below W.heap.size W w') := hid fun W hb J1 J2 => by
    have := kA.out W hb J1 J2
    rwa [ahead_plz, ← hpr] at this
  clear kA hpr
  replace hCF := hid hCF
  generalize hgS : w.heap.size = gS at *
  replace hgS := hid hgS
  replace hrowC := hid hrowC
  replace hsz1 := hid hsz1
  replace hn := hid hn
  replace b1 := hid b1
  replace hW1 := hid hW1
  replace hwf := hid hwf
  go_enter Try.func3, Try.ntmps3
  go_upto_region 1 with fail
  rw [← hW1.out, hgS.out]
  by_cases hbig : bigB cn pn ak qk k = true
  · rw [hbig] at kB
    go_wp2_with (refine wpList_load_row rfl 28 (.tmp 2) rfl gS rfl 28 CF (0, 0) _ hrowC.out Try.underlying28 rfl (by rw [hcs.out]; kernel_rfl) ?_)
    refine kB.mono ?_
    clear kB
    rintro e w2 ⟨rfl, h2⟩
    have B2 := hid (b1.out.trans (h2.mono (by have := hsz1.out; omega)))
    clear h2
    go_wp2_with fail
    refine (awake_any _).mono ?_
    rintro e w3 ⟨rfl, h3⟩
    have B3 := hid (B2.out.trans (h3.mono (by have := B2.out.size; have := hgS.out; omega)))
    clear h3
    go_wp2
    go_ret
    exact ⟨rfl, B3.out⟩
  · have hbf : bigB cn pn ak qk k = false := by simpa using hbig
    rw [hbf] at kB
    by_cases hk30 : 30 < k
    · have d30 : (30 : Int) < (k : Int) := by omega
      go_wp2_with (refine wpList_load_row rfl 28 (.tmp 2) rfl gS rfl 28 CF (0, 0) _ hrowC.out Try.underlying28 rfl (by rw [hcs.out]; kernel_rfl) ?_)
      refine kB.mono ?_
      clear kB
      rintro e w2 ⟨rfl, h2⟩
      have B2 := hid (b1.out.trans (h2.mono (by have := hsz1.out; omega)))
      clear h2
      go_wp2_with fail
      refine (awake_any _).mono ?_
      rintro e w3 ⟨rfl, h3⟩
      have B3 := hid (B2.out.trans (h3.mono (by have := B2.out.size; have := hgS.out; omega)))
      clear h3
      go_wp2
      go_ret
      exact ⟨rfl, B3.out⟩
    · have d30 : ¬ (30 : Int) < (k : Int) := by omega
      go_wp2_with (refine wpList_load_row rfl 28 (.tmp 2) rfl gS rfl 28 CF (0, 0) _ hrowC.out Try.underlying28 rfl (by rw [hcs.out]; kernel_rfl) ?_)
      refine kB.mono ?_
      clear kB
      rintro e w2 ⟨rfl, h2⟩
      have hg2 := hid h2
      have hsz2 : gS < w2.heap.size := by have := h2.size; have := hsz1.out; omega
      clear h2
      -- the map
      have hmj0 := hid (MJ.new w2)
      have bm := below_lit w2 (.map #[] 0)
      replace bm := hid bm
      obtain ⟨gm, hgm⟩ : ∃ gm, gm = w2.heap.size := ⟨_, rfl⟩
      have hmne : gS ≠ gm := by omega
      rw [← hgm] at hmj0
      replace hgm := hid hgm
      have hmk : (Instr.makeMap 32 none).run Try.prog w2 = .ok (.map (some w2.heap.size)) (w2.alloc (.map #[] 0)) := rfl
      go_wp2_with fail
      clear hmk
      rw [← hgm.out]
      go_loopw [6, 31] (fun v i wr => ∃ j : Nat, j ≤ k ∧ i = .int .i64 (j : Int) ∧ v = .int .i64 ((((L.take j).filter pend).length : Nat) : Int) ∧ Hid (MJ wr gm (L.take j)) ∧ Hid (Unlike (·.id) (L.take j)) ∧ Below gm w2 wr) (fun _ i _ => k - (intOf i).toNat)
      case atStart => exact ⟨0, Nat.zero_le _, rfl, rfl, hid hmj0.out, hid List.Pairwise.nil, by have := bm.out; rw [← hgm.out] at this; exact this⟩
      case round =>
        obtain ⟨j, hj, rfl, rfl, hmj, hun, hb⟩ := hrel
        have hbW : Hid (Below W1.heap.size W1 wr) := hid (hg2.out.trans (hb.mono (by have := hgm.out; have := hg2.out.size; omega)))
        have hgw : gm < wr.heap.size := hmj.out.lt
        by_cases hlt : j < k
        · have hjL : j < L.length := by rw [hn.out]; exact hlt
          obtain ⟨b, o, e⟩ := hat.out.place (by omega)
          subst e
          have hcj := hid ((hat.out.below hbW.out).range hjL)
          have hnext := hid (cnt_take hjL)
          have hnext2 : Hid (L.take (j + 1) = L.take j ++ [jobAt L j]) := hid (by rw [take_more hjL, jobAt_eq hjL])
          have hwj : Hid ((Lit.int .i64 (jobAt L j).id).wf = true) := hid (by rw [← jobAt_eq hjL]; exact hwf.out _ (List.getElem_mem hjL))
          have htl : Hid ((L.take j).length ≤ 1000) := hid (by rw [List.length_take]; omega)
          have hcj30 : ((L.take j).filter pend).length ≤ 30 := by have h1 := List.length_filter_le pend (L.take j); have h2 := List.length_take (i := j) (l := L); omega
          generalize ((L.take j).filter pend).length = cn2 at *
          generalize hT : L.take j = T at *
          replace hT := hid hT
          generalize jobAt L j = J at *
          have bl := hid (below_lit wr (.cells (jc J).toArray 40))
          obtain ⟨X1, hX1⟩ : ∃ X1, X1 = wr.alloc (.cells (jc J).toArray 40) := ⟨_, rfl⟩
          have hsX1 : X1.heap.size = wr.heap.size + 1 := by rw [hX1, size_lit]
          have hrow : X1.heap[wr.heap.size]? = some (.cells (jc J).toArray 40 (0, 0)) := by rw [hX1]; exact heap_alloc_new wr _
          have hid0 : X1.cell? ⟨wr.heap.size, 0, none⟩ = some (.int .i64 J.id) := row_cell hrow 0 _ rfl
          have blX : Below wr.heap.size wr X1 := by rw [hX1]; exact bl.out
          have hmj1 := hid (hmj.out.below blX)
          replace blX := hid blX
          replace hrow := hid hrow
          go_upto_region 8 with (first
            | (refine wpList_load_mid rfl 40 (.tmp 33) rfl b (o + j * 17) rfl (jc J) _ hcj.out Try.underlying40 rfl (by kernel_rfl) ?_)
            | (refine wpList_store_row rfl 40 (.tmp 8) (.tmp 34) rfl wr.heap.size (jc J).toArray rfl rfl 40 _ (heap_alloc_new wr _) (by kernel_rfl) rfl (jc_all _) ?_; rw [alloc_setRow]))
          rw [← hX1]
          replace hX1 := hid hX1
          have hg8 : wr.heap.size < X1.heap.size := by omega
          generalize hg8' : wr.heap.size = g8 at *
          replace hg8' := hid hg8'
          replace hsX1 := hid hsX1
          cases hf : findJ T J.id with
          | some J2 =>
            have hlk := hmj1.out.look_some hwj.out hf
            replace hf := hid hf
            go_wp2_with (refine wpList_store_row rfl 40 (.tmp 9) (.tmp 40) rfl X1.heap.size (jc J2).toArray rfl rfl 40 _ (heap_alloc_new X1 _) (by kernel_rfl) rfl (jc_all _) ?_; rw [alloc_setRow])
            have b2 := below_lit X1 (.cells (jc J2).toArray 40)
            have hB : Hid (Below gm w2 (X1.alloc (.cells (jc J2).toArray 40))) := hid (hb.trans ((blX.out.mono (by omega)).trans (b2.mono (by omega))))
            clear b2 hlk
            refine (awake_any _).mono ?_
            rintro e w3 ⟨rfl, h3⟩
            have B3 : Below gS w w3 := b1.out.trans ((hg2.out.trans ((hB.out.trans (h3.mono (by have := hB.out.size; have := hgm.out; simp; omega))).mono (by have := hgm.out; have := hg2.out.size; omega))).mono (by have := hsz1.out; omega))
            clear h3
            go_wp2
            go_ret
            exact ⟨rfl, B3⟩
          | none =>
            have hlk := hmj1.out.look_none hwj.out hf
            obtain ⟨X2, hX2⟩ : ∃ X2, X2 = X1.alloc (.cells (jc job0).toArray 40) := ⟨_, rfl⟩
            have bX2 : Below X1.heap.size X1 X2 := by rw [hX2]; exact below_lit _ _
            have hmj2 := hmj1.out.below bX2
            obtain ⟨X3, hup, hmj3, htn⟩ := hmj2.put J htl.out hwj.out hf
            have hr2 : X2.heap[g8]? = some (.cells (jc J).toArray 40 (0, 0)) := by rw [bX2.block _ hg8]; exact hrow.out
            have hid2 : X2.cell? ⟨g8, 0, none⟩ = some (.int .i64 J.id) := row_cell hr2 0 _ rfl
            have hr3 : X3.heap[g8]? = some (.cells (jc J).toArray 40 (0, 0)) := by rw [turned_heap htn (by omega)]; exact hr2
            have hst : X3.cell? ⟨g8, 11, none⟩ = some (.int .u8 J.st) := row_cell hr3 11 _ rfl
            have hB : Hid (Below gm w2 X3) := hid (hb.trans ((blX.out.mono (by omega)).trans ((bX2.mono (by omega)).trans (turned_below htn))))
            have hun2 := hid (unlike_snoc hun.out hf)
            have hg83 : g8 < X3.heap.size := by rw [turned_size htn]; have := bX2.size; omega
            have hg82 : g8 < X2.heap.size := by have := bX2.size; omega
            replace hf := hid hf
            replace hmj3 := hid hmj3
            replace htn := hid htn
            replace hr2 := hid hr2
            replace hr3 := hid hr3
            replace bX2 := hid bX2
            clear hmj2
            by_cases hp : J.st = 1
            · have hcnt : Hid (((L.take (j + 1)).filter pend).length = cn2 + 1) := hid (by rw [hnext.out, if_pos (show pend J = true from decide_eq_true hp)])
              have dst : (J.st == 1) = true := by rw [hp]; rfl
              replace hp := hid hp
              go_upto_region 11 with (refine wpList_store_row rfl 40 (.tmp 9) (.tmp 40) rfl X1.heap.size (jc job0).toArray rfl rfl 40 _ (heap_alloc_new X1 _) (by kernel_rfl) rfl (jc_all _) ?_; rw [alloc_setRow])
              rw [← hX2]
              replace hX2 := hid hX2
              go_wp2_with (refine wpList_load_row rfl 40 (.tmp 8) rfl g8 rfl 40 (jc J).toArray (0, 0) _ hr2.out Try.underlying40 rfl (by kernel_rfl) ?_)
              go_roundw
              case rel => exact ⟨j + 1, by omega, by go_num, by rw [hcnt.out]; go_num, hid (by rw [hnext2.out]; exact hmj3.out), hid (by rw [hnext2.out]; exact hun2.out), hB.out⟩
              case measure => simp [intOf]; omega
            · have hcnt : Hid (((L.take (j + 1)).filter pend).length = cn2) := hid (by rw [hnext.out, if_neg (by unfold pend; simpa using hp)]; rfl)
              have dst : (J.st == 1) = false := beq_eq_false_iff_ne.2 hp
              replace hp := hid hp
              go_upto_region 11 with (refine wpList_store_row rfl 40 (.tmp 9) (.tmp 40) rfl X1.heap.size (jc job0).toArray rfl rfl 40 _ (heap_alloc_new X1 _) (by kernel_rfl) rfl (jc_all _) ?_; rw [alloc_setRow])
              rw [← hX2]
              replace hX2 := hid hX2
              go_wp2_with (refine wpList_load_row rfl 40 (.tmp 8) rfl g8 rfl 40 (jc J).toArray (0, 0) _ hr2.out Try.underlying40 rfl (by kernel_rfl) ?_)
              go_roundw
              case rel => exact ⟨j + 1, by omega, by go_num, by rw [hcnt.out], hid (by rw [hnext2.out]; exact hmj3.out), hid (by rw [hnext2.out]; exact hun2.out), hB.out⟩
              case measure => simp [intOf]; omega
        · have hje : j = k := by omega
          subst hje
          have hf : Hid (L.take j = L) := hid (by rw [← hn.out, List.take_length])
          rw [hf.out] at hmj hun ⊢
          have hlf : (L.filter pend).length ≤ 30 := by have h1 := List.length_filter_le pend L; have := hn.out; omega
          have kq := kQ.out wr hbW.out (by omega)
          have hrC := hid (show wr.heap[gS]? = some (.cells CF 28 (0, 0)) by rw [hbW.out.block _ (by have := hsz1.out; omega)]; exact hrowC.out)
          obtain ⟨n, hnn⟩ : ∃ n, n = (L.filter pend).length := ⟨_, rfl⟩
          rw [← hnn] at hlf ⊢
          replace hnn := hid hnn
          go_wp2_with (refine wpList_load_row rfl 28 (.tmp 2) rfl gS rfl 28 CF (0, 0) _ hrC.out Try.underlying28 rfl (by rw [hcs.out]; kernel_rfl) ?_)
          refine kq.mono ?_
          clear kq
          rintro e w5 ⟨ra, rc, q, rfl, hq, hqa, hqc, h5⟩
          have hql : q.length = n := by rw [hnn.out]; exact IsQ.len pr (·.id) hq
          obtain ⟨S, hS⟩ := qs_of hq hun.out
          rw [hql] at hqc ⊢
          have hSn : S.length = n := by rw [← hS.len, hql]
          have hmj5 := hid (hmj.out.below h5)
          have hB5 := hid (hbW.out.trans (h5.mono hbW.out.size))
          have hg5 : gm < w5.heap.size := by have := h5.size; omega
          replace hql := hid hql
          replace hSn := hid hSn
          replace hS := hid hS
          replace hqa := hid hqa
          clear h5 hq hmj hrC
          have hgS5 : gS < w5.heap.size := by have := hB5.out.size; have := hsz1.out; omega
          have hrC5 := hid (show w5.heap[gS]? = some (.cells CF 28 (0, 0)) by rw [hB5.out.block _ (by have := hsz1.out; omega)]; exact hrowC.out)
          have hms0 := hid (MS.new w5)
          have bm2 := hid (below_lit w5 (.map #[] 0))
          obtain ⟨gs, hgs⟩ : ∃ gs, gs = w5.heap.size := ⟨_, rfl⟩
          rw [← hgs] at hms0 hg5 hgS5
          replace hgs := hid hgs
          have hmk : (Instr.makeMap 43 none).run Try.prog w5 = .ok (.map (some w5.heap.size)) (w5.alloc (.map #[] 0)) := rfl
          go_wp2_with fail
          clear hmk
          rw [← hgs.out]
          go_loopw [64] (fun i wr2 => ∃ t : Nat, t ≤ n ∧ i = .int .i64 (t : Int) ∧ Hid (MS wr2 gs (q.take t)) ∧ Below gs w5 wr2) (fun i _ => n - (intOf i).toNat)
          case atStart => exact ⟨0, Nat.zero_le _, rfl, hid hms0.out, by have := bm2.out; rw [← hgs.out] at this; exact this⟩
          case round =>
            rename World => wr2
            obtain ⟨t, ht, rfl, hms, hbt⟩ := hrel
            have hbt' : Hid (Below w5.heap.size w5 wr2) := hid (by rw [← hgs.out]; exact hbt)
            by_cases hlt2 : t < n
            · have htS : t < S.length := by rw [hSn.out]; exact hlt2
              have htq : t < q.length := by rw [hql.out]; exact hlt2
              obtain ⟨b, o, e⟩ := hqa.out.place (by omega)
              subst e
              have x0 := (hqa.out.below hbt'.out).one htq
              rw [hS.out.id_ t htS] at x0
              have hmem := hid (hS.out.mem t htS)
              have hwj : Hid ((Lit.int .i64 (jobAt S t).id).wf = true) := hid (hwf.out _ hmem.out.1)
              have hnew : Hid ((jobAt S t).id ∉ q.take t) := hid (by rw [← hS.out.id_ t htS]; exact qs_new hS.out htS)
              have hnx : Hid (q.take (t + 1) = q.take t ++ [(jobAt S t).id]) := hid (by rw [take_more htq, itAt_eq htq, hS.out.id_ t htS])
              have hst1 : Hid ((jobAt S t).st = 1) := hid (of_decide_eq_true hmem.out.2)
              have hmj6 := hmj5.out.below hbt'.out
              have hlk := hmj6.look_some hwj.out (findJ_mem hun.out hmem.out.1)
              have hords := hid (fun u (hu : u < t) => (hS.out.lt u t hu htS).2)
              have hql2 : Hid ((q.take t).length ≤ 1000) := hid (by rw [List.length_take]; have := hql.out; omega)
              replace hmj6 := hid hmj6
              generalize hJ : jobAt S t = J at *
              replace hJ := hid hJ
              obtain ⟨X1, hX1⟩ : ∃ X1, X1 = wr2.alloc (.cells (jc J).toArray 40) := ⟨_, rfl⟩
              have hsX1 : X1.heap.size = wr2.heap.size + 1 := by rw [hX1, size_lit]
              have hrow : X1.heap[wr2.heap.size]? = some (.cells (jc J).toArray 40 (0, 0)) := by rw [hX1]; exact heap_alloc_new wr2 _
              have hcst : X1.cell? ⟨wr2.heap.size, 11, none⟩ = some (.int .u8 1) := by rw [← hst1.out]; exact row_cell hrow 11 _ rfl
              have blX : Below wr2.heap.size wr2 X1 := by rw [hX1]; exact below_lit _ _
              have hms1 := hms.out.below blX
              have hls := hms1.look_no hwj.out hnew.out
              obtain ⟨X2, hup, hms2, htn⟩ := hms1.put J.id hql2.out hwj.out
              have hgsw : gs < wr2.heap.size := hms.out.lt
              have hr2 : X2.heap[wr2.heap.size]? = some (.cells (jc J).toArray 40 (0, 0)) := by rw [turned_heap htn (by omega)]; exact hrow
              have hB2 : Hid (Below gs w5 X2) := hid (hbt.trans ((blX.mono (by omega)).trans (turned_below htn)))
              have hs2 : wr2.heap.size < X2.heap.size := by rw [turned_size htn]; omega
              replace hms2 := hid hms2
              replace htn := hid htn
              replace hr2 := hid hr2
              replace hrow := hid hrow
              replace blX := hid blX
              clear hms1
              go_upto_region 23 with (refine wpList_store_row rfl 40 (.tmp 15) (.tmp 73) rfl wr2.heap.size (jc J).toArray rfl rfl 40 _ (heap_alloc_new wr2 _) (by kernel_rfl) rfl (jc_all _) ?_; rw [alloc_setRow])
              rw [← hX1]
              replace hX1 := hid hX1
              replace hsX1 := hid hsX1
              clear hlk
              generalize hg15' : wr2.heap.size = g15 at *
              replace hg15' := hid hg15'
              have p1 : (0 : Int) ≤ (t : Int) := by omega
              have p2 : (t : Int) ≤ (rc : Int) := by omega
              have p3 : ((t : Int)).toNat = t := by omega
              go_wp2_with fail
              go_loopw [93] (fun i wr3 => ∃ u : Nat, u ≤ t ∧ i = .int .i64 (u : Int) ∧ Below X2.heap.size X2 wr3) (fun i _ => t - (intOf i).toNat)
              case atStart => exact ⟨0, Nat.zero_le _, rfl, Below.refl _ _⟩
              case round =>
                rename World => wr3
                obtain ⟨u, hu, rfl, hbu⟩ := hrel
                by_cases hlt3 : u < t
                · have huS : u < S.length := by omega
                  have huq : u < q.length := by have := hql.out; omega
                  have hB3 : Hid (Below w5.heap.size w5 wr3) := hid (by rw [← hgs.out]; exact hB2.out.trans (hbu.mono (by omega)))
                  have y0 := (hqa.out.below hB3.out).one huq
                  rw [hS.out.id_ u huS] at y0
                  have hmem2 := hid (hS.out.mem u huS)
                  have hwu : Hid ((Lit.int .i64 (jobAt S u).id).wf = true) := hid (hwf.out _ hmem2.out.1)
                  have hl1 := (hmj5.out.below hB3.out).look_one hwu.out (findJ_mem hun.out hmem2.out.1)
                  have hord := hords.out u hlt3
                  generalize jobAt S u = JU at *
                  have hr3 := hid (show wr3.heap[g15]? = some (.cells (jc J).toArray 40 (0, 0)) by rw [hbu.block _ hs2]; exact hr2.out)
                  have hrC3 := hid (show wr3.heap[gS]? = some (.cells CF 28 (0, 0)) by rw [hB3.out.block _ (by have := hgs.out; omega)]; exact hrC5.out)
                  have k1 := kA2.out wr3 (hB5.out.trans (hB3.out.mono hB5.out.size)) JU J
                  rw [hord.1] at k1
                  have hs3 : g15 < wr3.heap.size := by have := hbu.size; omega
                  go_wp2_with (first
                    | (refine wpList_load_row rfl 28 (.tmp 2) rfl gS rfl 28 CF (0, 0) _ hrC3.out Try.underlying28 rfl (by rw [hcs.out]; kernel_rfl) ?_)
                    | (refine wpList_load_row rfl 40 (.tmp 15) rfl g15 rfl 40 (jc J).toArray (0, 0) _ hr3.out Try.underlying40 rfl (by kernel_rfl) ?_))
                  refine k1.mono ?_
                  clear k1
                  rintro e w7 ⟨rfl, h7⟩
                  have hB7 : Hid (Below w5.heap.size w5 w7) := hid (hB3.out.trans (h7.mono hB3.out.size))
                  have hl2 := (hmj5.out.below hB7.out).look_one hwu.out (findJ_mem hun.out hmem2.out.1)
                  have hr7 := hid (show w7.heap[g15]? = some (.cells (jc J).toArray 40 (0, 0)) by rw [h7.block _ hs3]; exact hr3.out)
                  have hrC7 := hid (show w7.heap[gS]? = some (.cells CF 28 (0, 0)) by rw [hB7.out.block _ (by have := hgs.out; omega)]; exact hrC5.out)
                  have k2 := kA2.out w7 (hB5.out.trans (hB7.out.mono hB5.out.size)) J JU
                  rw [hord.2] at k2
                  have hbu7 := hid (hbu.trans (h7.mono hbu.size))
                  clear h7 hl1 hr3 hrC3
                  go_wp2_with (first
                    | (refine gload_row 7 false 104 rfl rfl rfl 28 (.tmp 2) rfl gS rfl 28 CF (0, 0) _ hrC7.out Try.underlying28 (by rw [hcs.out]; kernel_rfl) ?_)
                    | (refine gload_row 7 false 104 rfl rfl rfl 40 (.tmp 15) rfl g15 rfl 40 (jc J).toArray (0, 0) _ hr7.out Try.underlying40 (by kernel_rfl) ?_))
                  refine k2.mono ?_
                  clear k2
                  rintro e w8 ⟨rfl, h8⟩
                  have hbu8 := hid (hbu7.out.trans (h8.mono hbu7.out.size))
                  clear h8
                  go_wp2_with fail
                  go_roundw
                  case rel => exact ⟨u + 1, by omega, by go_num, hbu8.out⟩
                  case measure => simp [intOf]; omega
                · have hue : u = t := by omega
                  have hfin := hid (show Below gs w5 wr3 from hB2.out.trans (hbu.mono (by omega)))
                  have hmsF := hid (show MS wr3 gs (q.take (t + 1)) from by rw [hnx.out]; exact hms2.out.below hbu)
                  have d9 : ¬ (u : Int) < (t : Int) := by omega
                  replace hue := hid hue
                  go_wp2_with fail
                  go_roundw
                  case rel => exact ⟨t + 1, by omega, by go_num, hmsF, hfin.out⟩
                  case measure => simp [intOf]; omega
            · have hte : t = n := by omega
              subst hte
              go_wp2_with fail
              refine (awake_any _).mono ?_
              rintro e w9 ⟨rfl, h9⟩
              have B9 : Below gS w w9 := b1.out.trans ((hB5.out.trans ((hbt'.out.trans (h9.mono hbt'.out.size)).mono hB5.out.size)).mono (by have := hsz1.out; omega))
              clear h9
              go_wp2
              go_ret
              exact ⟨rfl, B9⟩
end Go.Proofs.Ytflapjehkgefdaa
