/- OrderTells: the copies are as good as what they copy. -/
import Derived.Test.YtflapjehkgefdaaGreatRqu
import Derived.Test.YtflapjehkgefdaaGreatCfg
import Derived.Test.YtflapjehkgefdaaGreatBg
namespace Go.Proofs.YtflapjehkgefdaaGreat
open Go.RowKit
set_option linter.unusedVariables false
set_option linter.unusedSimpArgs false

theorem pi_re : ∀ {M M' : List (Prt × List ByteArray)} (_ : ReP M M') (n : ByteArray), pi (M'.map (·.1)) n = pi (M.map (·.1)) n
  | [], [], _, n => rfl
  | p :: r, q :: t, h, n => by
    obtain ⟨⟨x, y, e⟩, _, h2⟩ := h
    have ih := pi_re h2 n
    unfold pi at *
    simp only [List.map_cons, ki]
    rw [ih, e]; rfl
  | [], q :: t, h, _ => by cases h
  | p :: r, [], h, _ => by cases h
theorem mAt_re {M M' : List (Prt × List ByteArray)} (h : ReP M M') {i : Nat} (hi : i < M.length) : (∃ x y, (mAt M' i).1 = (mAt M i).1.re x y) ∧ (mAt M' i).2 = (mAt M i).2 := by
  have hl := reP_len h
  have := reP_at h i hi (by omega)
  rw [mAt_eq hi, mAt_eq (by omega)] at this
  exact this
theorem partsB_re {cn : Nat} {A : List Acc} {M M' : List (Prt × List ByteArray)} (h : ReP M M') : partsB cn A M' = partsB cn A M := by
  unfold partsB
  have hl := reP_len h
  refine decide_eq_decide.2 ?_
  rw [hl]
  refine and_congr_right fun _ => and_congr_right fun _ => forall_congr' fun i => ?_
  refine imp_congr_right fun hi => ?_
  obtain ⟨⟨x, y, e⟩, e2⟩ := mAt_re h hi
  rw [pi_re h, e, e2]; rfl
theorem rcB_re {Z : List Int} {A : List Acc} {Q : List Qu} {pol : Int} {M M' : List (Prt × List ByteArray)} (h : ReP M M') : rcB Z M' A Q pol = rcB Z M A Q pol := by
  unfold rcB; rw [partsB_re h]
theorem cfr_copy {w : World} {ca pa aa qa ca2 pa2 aa2 qa2 : Option Addr} {cn cc pn pc ak az qk qc az2 qc2 : Nat} {I : List Int} {M M' : List (Prt × List ByteArray)} {A : List Acc} {Q : List Qu}
    (hin : CfgIn w ca pa aa qa cn cc pn pc ak az qk qc I M A Q) (hC : Cf2 w ca2 pa2 aa2 qa2 az2 qc2 ak qk M' I M A Q) : CfR w ca2 pa2 aa2 qa2 cn pn ak az2 qk I M' A Q := by
  obtain ⟨h1, h2, h3, h4, h5, h6, h7, h8⟩ := hC
  have hl := reP_len h3
  have e1 := hin.ib
  have e2 := hin.mb
  have e3 := hin.ab
  have e4 := hin.qb
  have each : ∀ p ∈ M', ∃ q ∈ M, (∃ x y, p.1 = q.1.re x y) ∧ p.2 = q.2 := fun p hp => by
    obtain ⟨i, hi, rfl⟩ := List.getElem_of_mem hp
    have hi2 : i < M.length := by omega
    exact ⟨M[i], List.getElem_mem hi2, reP_at h3 i hi2 hi⟩
  refine ⟨hin.il, h1, by omega, by rw [hl]; exact hin.ml, h2, by omega, fun p hp => ?_, fun p hp => ?_, hin.al, h5, h6, by omega, hin.ql, h7, by omega⟩
  · obtain ⟨q, hq, ⟨x, y, e⟩, e5⟩ := each p hp
    obtain ⟨m1, m2, m3⟩ := hin.min q hq
    refine ⟨by rw [e5, e]; exact m1, h4 p hp, ?_⟩
    rw [e]
    have : (q.1.re x y).dn = q.1.dn := rfl
    omega
  · obtain ⟨q, hq, ⟨x, y, e⟩, e5⟩ := each p hp
    obtain ⟨z, hz, hz2⟩ := hin.set q hq
    exact ⟨z, by rw [e]; exact hz, hz2⟩

theorem cfr_in {w : World} {ca pa aa qa : Option Addr} {cn cc pn pc ak az qk qc : Nat} {I : List Int} {M : List (Prt × List ByteArray)} {A : List Acc} {Q : List Qu}
    (hin : CfgIn w ca pa aa qa cn cc pn pc ak az qk qc I M A Q) : CfR w ca pa aa qa cn pn ak az qk I M A Q := by
  have e1 := hin.ib
  have e2 := hin.mb
  have e3 := hin.ab
  have e4 := hin.qb
  exact ⟨hin.il, hin.iat, by omega, hin.ml, hin.mat, by omega, fun p hp => ⟨(hin.min p hp).1, (hin.min p hp).2.1, by have := (hin.min p hp).2.2; omega⟩, hin.set, hin.al, hin.aat, hin.ale, by omega, hin.ql, hin.qat, by omega⟩

theorem CfgIn.below {w w' : World} {ca pa aa qa : Option Addr} {cn cc pn pc ak az qk qc : Nat} {I : List Int} {M : List (Prt × List ByteArray)} {A : List Acc} {Q : List Qu}
    (h : CfgIn w ca pa aa qa cn cc pn pc ak az qk qc I M A Q) (hb : Below w.heap.size w w') : CfgIn w' ca pa aa qa cn cc pn pc ak az qk qc I M A Q :=
  ⟨h.il, h.iat.below hb, h.ib, h.ml, h.mat.below hb, h.mb, h.min.below hb, h.set, h.al, h.aat.below hb, h.ale, h.ab, h.asz, h.ql, h.qat.below hb, h.qle, h.qb, h.qsz⟩

/-- A job, its dependencies nowhere. -/
def strip (J : Job) : Job := J.re none 0
theorem isq_map {α : Type} (pr id : α → Int) (pd : α → Bool) (f : α → α) (h1 : ∀ a, pr (f a) = pr a) (h2 : ∀ a, id (f a) = id a) (h3 : ∀ a, pd (f a) = pd a) {L : List α} {q : List Int} : IsQ pr id pd (L.map f) q ↔ IsQ pr id pd L q := by
  have hfm : (L.map f).filter pd = (L.filter pd).map f := by
    rw [List.filter_map]
    congr 1
    exact List.filter_congr fun a _ => h3 a
  have hq : ∀ a b, leQ pr id (f a) (f b) ↔ leQ pr id a b := fun a b => by unfold leQ; rw [h1, h1, h2, h2]
  constructor
  · rintro ⟨S, hp, hs, rfl⟩
    rw [hfm] at hp
    obtain ⟨S', hp', rfl⟩ := perm_map_inv f hp rfl
    refine ⟨S', hp', ?_, ?_⟩
    · unfold SortedQ at *
      rw [List.pairwise_map] at hs
      exact hs.imp fun {a b} h => (hq a b).1 h
    · rw [List.map_map]; exact List.map_congr_left fun a _ => h2 a
  · rintro ⟨S, hp, hs, rfl⟩
    refine ⟨S.map f, by rw [hfm]; exact hp.map f, ?_, ?_⟩
    · unfold SortedQ at *
      rw [List.pairwise_map]
      exact hs.imp fun {a b} h => (hq a b).2 h
    · rw [List.map_map]; exact (List.map_congr_left fun a _ => h2 a).symm
theorem reJ_strip : ∀ {M M' : List (Job × List Dp)}, ReJ M M' → (M'.map (·.1)).map strip = (M.map (·.1)).map strip
  | [], [], _ => rfl
  | p :: r, q :: t, h => by
    obtain ⟨⟨x, y, e⟩, _, h2⟩ := h
    simp only [List.map_cons]
    rw [reJ_strip h2, e]
    rfl
  | [], q :: t, h => h.elim
  | p :: r, [], h => h.elim
theorem isq_strip {Z : List Int} {N : List (Prt × List ByteArray)} {A : List Acc} {Q : List Qu} {pol : Int} {L : List Job} {q : List Int} : IsQ (prQ Z N A Q pol) (·.id) pend (L.map strip) q ↔ IsQ (prQ Z N A Q pol) (·.id) pend L q :=
  isq_map (prQ Z N A Q pol) (·.id) pend strip (fun _ => rfl) (fun _ => rfl) (fun _ => rfl)
theorem isq_re {Z : List Int} {N : List (Prt × List ByteArray)} {A : List Acc} {Q : List Qu} {pol : Int} {M M' : List (Job × List Dp)} (h : ReJ M M') {q : List Int} : IsQ (prQ Z N A Q pol) (·.id) pend (M'.map (·.1)) q ↔ IsQ (prQ Z N A Q pol) (·.id) pend (M.map (·.1)) q := by
  rw [← isq_strip, reJ_strip h, isq_strip]

theorem prioP_re {Z : List Int} {A : List Acc} {Q : List Qu} {pol : Int} {M M' : List (Prt × List ByteArray)} (h : ReP M M') (x y : ByteArray) : prioP Z M' A Q pol x y = prioP Z M A Q pol x y := by
  unfold prioP
  rw [rcB_re h, pi_re h]
  cases hp : pi (M.map (·.1)) y with
  | none => rfl
  | some i =>
    have hi : i < M.length := by have := pi_lt hp; rwa [List.length_map] at this
    obtain ⟨⟨u, v, e⟩, e2⟩ := mAt_re h hi
    cases hq : qi Q x with
    | none => rfl
    | some k =>
      simp only []
      rw [e]; rfl
theorem prQ_re {Z : List Int} {A : List Acc} {Q : List Qu} {pol : Int} {M M' : List (Prt × List ByteArray)} (h : ReP M M') : prQ Z M' A Q pol = prQ Z M A Q pol := funext fun J => by
  unfold prQ; rw [prioP_re h]
theorem prQ_job {Z : List Int} {A : List Acc} {Q : List Qu} {pol : Int} {M : List (Prt × List ByteArray)} (J : Job) (x : Option Addr) (y : Nat) : prQ Z M A Q pol (J.re x y) = prQ Z M A Q pol J := rfl
theorem jobAt_re {M M' : List (Job × List Dp)} (h : ReJ M M') {i : Nat} (hi : i < M.length) : ∃ x y, jobAt (M'.map (·.1)) i = (jobAt (M.map (·.1)) i).re x y := by
  have hl := reJ_len h
  obtain ⟨⟨x, y, e⟩, _⟩ := reJ_at h i hi (by omega)
  refine ⟨x, y, ?_⟩
  rw [← jobAt_eq (by rw [List.length_map]; omega), ← jobAt_eq (by rw [List.length_map]; omega), List.getElem_map, List.getElem_map, e]
end Go.Proofs.YtflapjehkgefdaaGreat

namespace Go.Proofs.YtflapjehkgefdaaGreat
open Go.RowKit
set_option linter.unusedVariables false
set_option linter.unusedSimpArgs false

set_option maxRecDepth 100000 in
set_option maxHeartbeats 8000000 in
theorem tells_law (ca pa aa qa : Option Addr) (cn cc pn pc ak az qk qc : Nat) (pol : Int) (I : List Int) (M : List (Prt × List ByteArray)) (A : List Acc) (Q : List Qu) (a : Option Addr) (k c : Nat) (MJ : List (Job × List Dp)) (J : Job) (w : World)
    (hin : CfgIn w ca pa aa qa cn cc pn pc ak az qk qc I M A Q) (hmle : pn ≤ pc) (hmc : ∀ p ∈ M, p.1.dn ≤ p.1.dc) (hms : ∀ p ∈ M, p.1.name.size ≤ 9223372036854775807) (hn : MJ.length = k) (hkb : k * 184 ≤ 140737488355328) (hat : JAt w a (MJ.map (·.1))) (hJin : JIn w MJ) :
    Calls Tryz.prog 3 #[.agg #[.slice ca cn cc, .slice pa pn pc, .slice aa ak az, .slice qa qk qc, .int .u8 pol], .slice a k c, .agg (jc J).toArray] w fun e w' => e = .returned (.bool true) ∧ Below w.heap.size w w' := by
  obtain ⟨L, hL⟩ : ∃ L, L = MJ.map (·.1) := ⟨_, rfl⟩
  have hLn : L.length = k := by rw [hL, List.length_map]; exact hn
  obtain ⟨CF, hCF⟩ : ∃ CF, CF = (#[.slice ca cn cc, .slice pa pn pc, .slice aa ak az, .slice qa qk qc, .int .u8 pol] : Array Value) := ⟨_, rfl⟩
  have hcs : Hid (CF.size = 5) := hid (by rw [hCF]; rfl)
  obtain ⟨W0, hW0⟩ : ∃ W0, W0 = (w.alloc (.cells CF 28)).alloc (.cells (jc J).toArray 37) := ⟨_, rfl⟩
  have bl0 := below_lit w (.cells CF 28)
  have bl1 := below_lit (w.alloc (.cells CF 28)) (.cells (jc J).toArray 37)
  have bl := bnext bl0 bl1
  have c0 : W0.heap[w.heap.size]? = some (.cells CF 28 (0, 0)) := by
    rw [hW0, bl1.block _ (by rw [size_lit]; omega)]; exact heap_alloc_new w _
  have c1 : W0.heap[w.heap.size + 1]? = some (.cells (jc J).toArray 37 (0, 0)) := by
    have := heap_alloc_new (w.alloc (.cells CF 28)) (.cells (jc J).toArray 37)
    rw [size_lit] at this
    rw [hW0]; exact this
  rw [← hW0] at bl
  have hsz : W0.heap.size = w.heap.size + 1 + 1 := by rw [hW0, size_lit, size_lit]
  clear bl0 bl1
  have kB := big_any ca pa aa qa cn cc pn pc ak az qk qc pol a k c W0
  rw [← hCF] at kB ⊢
  replace c0 := hid c0
  replace c1 := hid c1
  replace bl := hid bl
  replace hW0 := hid hW0
  replace hsz := hid hsz
  replace hin := hid hin
  replace hmc := hid hmc
  replace hms := hid hms
  replace hn := hid hn
  replace hat := hid hat
  replace hJin := hid hJin
  replace hL := hid hL
  replace hLn := hid hLn
  replace hCF := hid hCF
  have lt1 : w.heap.size + 1 < W0.heap.size := by have := hsz.out; omega
  have lt0 : w.heap.size < W0.heap.size := by have := hsz.out; omega
  go_enter Tryz.func3, Tryz.ntmps3
  go_upto_region 1 with fail
  rw [← hW0.out]
  have kCC := hid fun (W : World) (hb : Below w.heap.size w W) (hak : ak ≤ 60) => copycfg ca pa aa qa cn cc pn pc ak az qk qc pol I M A Q W (hin.out.below hb) (by omega)
  have kCJ := hid fun (W : World) (hb : Below w.heap.size w W) => copyJ a k c MJ W hn.out hkb (hat.out.below hb) (hJin.out.below hb)
  have hin9 := hid fun (W : World) (hb : Below w.heap.size w W) => hin.out.below hb
  have hat9 := hid fun (W : World) (hb : Below w.heap.size w W) => hat.out.below hb
  have hJin9 := hid fun (W : World) (hb : Below w.heap.size w W) => hJin.out.below hb
  rw [← hCF.out] at kCC
  generalize hg5 : w.heap.size + 1 = g5 at *
  generalize hg3 : w.heap.size = g3 at *
  replace hg5 := hid hg5
  replace hg3 := hid hg3
  clear hin hat hJin
  by_cases hbig : bigB cn pn ak qk k = true
  · rw [hbig] at kB
    replace hbig := hid hbig
    go_wp2_with (refine wpList_load_row rfl 28 (.tmp 3) rfl g3 rfl 28 CF (0, 0) _ c0.out Tryz.underlying28 rfl (by rw [hcs.out]; kernel_rfl) ?_)
    refine kB.mono ?_
    clear kB
    rintro e w1 ⟨rfl, hb1⟩
    have D1 := hid (bl.out.trans (hb1.mono (by omega)))
    clear hb1
    go_wp2_with fail
    refine (awake_any _).mono ?_
    rintro e w2 ⟨rfl, hb2⟩
    have D2 : Below g3 w w2 := D1.out.trans (hb2.mono (by have := D1.out.size; have := hg3.out; omega))
    clear hb2
    go_wp2
    go_ret
    exact ⟨rfl, by rw [hg3.out]; exact D2⟩
  have hbf : bigB cn pn ak qk k = false := by simpa using hbig
  have hbn : ¬ (60 < cn ∨ 60 < pn ∨ 60 < ak ∨ 60 < qk ∨ 60 < k) := of_decide_eq_false hbf
  have hcn : cn ≤ 60 := by omega
  have hak : ak ≤ 60 := by omega
  have hk60 : k ≤ 60 := by omega
  rw [hbf] at kB
  clear hbig hbf hbn
  go_wp2_with (refine wpList_load_row rfl 28 (.tmp 3) rfl g3 rfl 28 CF (0, 0) _ c0.out Tryz.underlying28 rfl (by rw [hcs.out]; kernel_rfl) ?_)
  refine kB.mono ?_
  clear kB
  rintro e w1 ⟨rfl, hb1⟩
  have D1 := hid (bl.out.trans (hb1.mono (by omega)))
  have c01 := hid (show w1.heap[g3]? = some (.cells CF 28 (0, 0)) by rw [hb1.block _ lt0]; exact c0.out)
  have c11 := hid (show w1.heap[g5]? = some (.cells (jc J).toArray 37 (0, 0)) by rw [hb1.block _ lt1]; exact c1.out)
  have lt11 : g5 < w1.heap.size := by have := hb1.size; omega
  have lt01 : g3 < w1.heap.size := by have := hb1.size; omega
  clear hb1 c0 c1 lt0 lt1 bl
  have kC := kCC.out w1 D1.out hak
  go_wp2_with (refine wpList_load_row rfl 28 (.tmp 3) rfl g3 rfl 28 CF (0, 0) _ c01.out Tryz.underlying28 rfl (by rw [hcs.out]; kernel_rfl) ?_)
  refine kC.mono ?_
  clear kC kCC
  rintro e w2 ⟨ca2, pa2, aa2, qa2, cc2, pc2, az2, qc2, M', rfl, hC2, hb2⟩
  have D2 := hid (D1.out.trans (hb2.mono (by omega)))
  have c02 := hid (show w2.heap[g3]? = some (.cells CF 28 (0, 0)) by rw [hb2.block _ lt01]; exact c01.out)
  have c12 := hid (show w2.heap[g5]? = some (.cells (jc J).toArray 37 (0, 0)) by rw [hb2.block _ lt11]; exact c11.out)
  have lt12 : g5 < w2.heap.size := by have := hb2.size; omega
  have lt02 : g3 < w2.heap.size := by have := hb2.size; omega
  replace hC2 := hid hC2
  clear hb2 c01 c11 lt01 lt11
  have kJ := kCJ.out w2 D2.out
  go_wp2_with fail
  refine kJ.mono ?_
  clear kJ kCJ
  rintro e w3 ⟨la, lc, MJ', rfl, hlc, hJO, hre, hb3⟩
  obtain ⟨W4, hW4⟩ : ∃ W4, W4 = w3.alloc (.cells #[.slice ca2 cn cc2, .slice pa2 pn pc2, .slice aa2 ak az2, .slice qa2 qk qc2, .int .u8 pol] 28) := ⟨_, rfl⟩
  have bl4 : Below w3.heap.size w3 W4 := by rw [hW4]; exact below_lit _ _
  have c74 : W4.heap[w3.heap.size]? = some (.cells #[.slice ca2 cn cc2, .slice pa2 pn pc2, .slice aa2 ak az2, .slice qa2 qk qc2, .int .u8 pol] 28 (0, 0)) := by rw [hW4]; exact heap_alloc_new w3 _
  have D4 := hid (D2.out.trans ((bnext hb3 bl4).mono (by omega)))
  have c04 := hid (show W4.heap[g3]? = some (.cells CF 28 (0, 0)) by rw [(bnext hb3 bl4).block _ lt02]; exact c02.out)
  have c14 := hid (show W4.heap[g5]? = some (.cells (jc J).toArray 37 (0, 0)) by rw [(bnext hb3 bl4).block _ lt12]; exact c12.out)
  have lt14 : g5 < W4.heap.size := by have := hb3.size; have := bl4.size; omega
  have lt04 : g3 < W4.heap.size := by have := hb3.size; have := bl4.size; omega
  have lt74 : w3.heap.size < W4.heap.size := by rw [hW4, size_lit]; omega
  have hC4 := hid ((hC2.out.below hb3).below bl4)
  have hrp := hid hC2.out.2.2.1
  have hCr := hid (cfr_copy (hin9.out W4 D4.out) hC4.out)
  have hCd : Hid (CfD W4 ca pa aa qa cn pn pc ak az qk qc I M A Q) := hid ⟨cfr_in (hin9.out W4 D4.out), by omega, hmle, hmc.out, hms.out, (hin9.out W4 D4.out).asz, (hin9.out W4 D4.out).qle, (hin9.out W4 D4.out).qsz⟩
  have hL4 : Hid (JAt W4 la (MJ'.map (·.1))) := hid ((JO.jat hJO).below bl4)
  have hd4 := hid (fun p hp => (DOwn.dat (hJO.dep p hp)).below bl4)
  have hat4 : Hid (JAt W4 a L) := hid (by rw [hL.out]; exact hat9.out W4 D4.out)
  have hre9 := hid hre
  obtain ⟨CF2, hCF2⟩ : ∃ CF2, CF2 = (#[.slice ca2 cn cc2, .slice pa2 pn pc2, .slice aa2 ak az2, .slice qa2 qk qc2, .int .u8 pol] : Array Value) := ⟨_, rfl⟩
  have hcs2 : Hid (CF2.size = 5) := hid (by rw [hCF2]; rfl)
  rw [← hCF2] at c74
  obtain ⟨pr, hpr⟩ : ∃ pr, pr = prQ I M A Q pol := ⟨_, rfl⟩
  have hLn2 : (MJ'.map (·.1)).length = k := by rw [List.length_map, reJ_len hre]; exact hn.out
  obtain ⟨PZ, hPZ⟩ : ∃ PZ, PZ = prioP I M A Q pol J.s.qos J.s.part := ⟨_, rfl⟩
  have kP1 := hid fun (W : World) (hb : Below W4.heap.size W4 W) => prio_any ca2 pa2 aa2 qa2 cn cc2 pn pc2 ak az2 qk qc2 pol I M' A Q J.s W (hCr.out.below hb)
  have kP2 := hid fun (W : World) (hb : Below W4.heap.size W4 W) => rprio_any ca pa aa qa cn cc pn pc ak az qk qc pol I M A Q J.s W (hCd.out.below hb)
  simp only [prioP_re hrp.out] at kP1
  rw [← hPZ, ← hCF2] at kP1
  rw [← hPZ, ← hCF.out] at kP2
  have kQ1 : Hid (∀ (W : World), Below W4.heap.size W4 W → Calls Tryz.prog 11 #[.agg CF2, .slice la k lc] W (QueT pr L W)) := hid fun W hb => by
    rw [hCF2]
    refine (queue_any ca2 pa2 aa2 qa2 cn cc2 pn pc2 ak az2 qk qc2 pol I M' A Q la k lc (MJ'.map (·.1)) W (hCr.out.below hb) hLn2 (by omega) (hL4.out.below hb)).mono ?_
    rintro e w' ⟨ra, rc, q, he, hq, rest⟩
    rw [prQ_re hrp.out] at hq
    exact ⟨ra, rc, q, he, by rw [hpr, hL.out]; exact (isq_re hre).1 hq, rest⟩
  have kQ2 : Hid (∀ (W : World), Below W4.heap.size W4 W → Calls Tryz.prog 12 #[.agg CF, .slice a k c] W (QueT pr L W)) := hid fun W hb => by
    rw [hCF.out, hpr]
    exact rqueue_any ca pa aa qa cn cc pn pc ak az qk qc pol I M A Q a k c L W (hCd.out.below hb) hLn.out (by omega) (hat4.out.below hb)
  have kA1 : Hid (∀ (W : World), Below W4.heap.size W4 W → ∀ X Y : Job, Calls Tryz.prog 13 #[.agg CF2, .agg (jc X).toArray, .agg (jc Y).toArray] W fun e w' => e = .returned (.bool (aheadB pr (·.id) X Y)) ∧ Below W.heap.size W w') := hid fun W hb X Y => by
    rw [hCF2, hpr, ← prQ_re hrp.out, ← ahead_plz]
    exact ahead_any ca2 pa2 aa2 qa2 cn cc2 pn pc2 ak az2 qk qc2 pol I M' A Q X Y W (hCr.out.below hb)
  have kA2 : Hid (∀ (W : World), Below W4.heap.size W4 W → ∀ X Y : Job, Calls Tryz.prog 14 #[.agg CF, .agg (jc X).toArray, .agg (jc Y).toArray] W fun e w' => e = .returned (.bool (aheadB pr (·.id) X Y)) ∧ Below W.heap.size W w') := hid fun W hb X Y => by
    rw [hCF.out, hpr]
    exact rahead_any ca pa aa qa cn cc pn pc ak az qk qc pol I M A Q X Y W (hCd.out.below hb)
  have hprre : Hid (∀ (X : Job) (x : Option Addr) (y : Nat), pr (X.re x y) = pr X) := hid fun X x y => by rw [hpr]; rfl
  have kSc := hid fun (W : World) (hb : Below W4.heap.size W4 W) => samecfg ca pa aa qa cn cc pn pc ak az qk qc pol I M A Q ca2 pa2 aa2 qa2 cc2 pc2 az2 qc2 M' W ((hin9.out W4 D4.out).below hb) (hC4.out.below hb)
  rw [← hCF.out, ← hCF2] at kSc
  have kSj := hid fun (W : World) (hb : Below W4.heap.size W4 W) => sameJ la a k lc c MJ MJ' W hn.out (by omega) hre9.out (hL4.out.below hb) ((hat9.out W4 D4.out).below hb) (fun p hp => (hd4.out p hp).below hb) ((hJin9.out W4 D4.out).below hb)
  have hr5 := hid (rng_spec c14.out)
  replace hLn2 := hid hLn2
  replace hPZ := hid hPZ
  replace hpr := hid hpr
  replace hW4 := hid hW4
  replace c74 := hid c74
  clear hJO hre hb3 bl4 hC2 lt02 lt12 c02 c12
  go_upto_region 4 with fail
  rw [← hW4.out]
  generalize hg7 : w3.heap.size = g7 at *
  replace hg7 := hid hg7
  rw [← hCF2]
  replace hCF2 := hid hCF2
  have k4 := kP1.out W4 (Below.refl _ _)
  unfold PrioT at k4
  go_wp2_with (first | (refine wpList_load_row rfl 28 (.tmp 7) rfl g7 rfl 28 CF2 (0, 0) _ c74.out Tryz.underlying28 rfl (by rw [hcs2.out]; kernel_rfl) ?_) | (refine wpList_load_mid rfl 32 (.tmp 24) rfl g5 3 rfl (sc J.s) _ hr5.out Tryz.underlying32 rfl (by kernel_rfl) ?_))
  refine k4.mono ?_
  clear k4 kP1
  rintro e w5 ⟨rfl, hb5⟩
  have k5 := kP2.out w5 hb5
  unfold PrioT at k5
  have c05 := hid (show w5.heap[g3]? = some (.cells CF 28 (0, 0)) by rw [hb5.block _ lt04]; exact c04.out)
  have hr55 : Hid (w5.rangeAt g5 3 (sc J.s)) := hid (range_below hr5.out hb5)
  have lt15 : g5 < w5.heap.size := by have := hb5.size; omega
  have lt05 : g3 < w5.heap.size := by have := hb5.size; omega
  replace hb5 := hid hb5
  go_wp2_with (first | (refine wpList_load_row rfl 28 (.tmp 3) rfl g3 rfl 28 CF (0, 0) _ c05.out Tryz.underlying28 rfl (by rw [hcs.out]; kernel_rfl) ?_) | (refine wpList_load_mid rfl 32 (.tmp 31) rfl g5 3 rfl (sc J.s) _ hr55.out Tryz.underlying32 rfl (by kernel_rfl) ?_))
  refine k5.mono ?_
  clear k5 kP2
  rintro e w6 ⟨rfl, hb6⟩
  have B6 := hid (bnext hb5.out hb6)
  clear hb6 hb5 c05 hr55 lt15 lt05
  obtain ⟨P1, P2⟩ := PZ
  dsimp only
  clear hPZ
  have g3lt : g3 < w6.heap.size := by have := B6.out.size; omega
  have g7lt : g7 < w6.heap.size := by have := B6.out.size; omega
  have c06 := hid (show w6.heap[g3]? = some (.cells CF 28 (0, 0)) by rw [B6.out.block _ lt04]; exact c04.out)
  have c76 := hid (show w6.heap[g7]? = some (.cells CF2 28 (0, 0)) by rw [B6.out.block _ lt74]; exact c74.out)
  have hqlen : Hid (∀ q, IsQ pr (·.id) pend L q → q.length ≤ 60) := hid fun q hq => by
    rw [IsQ.len pr (·.id) hq]
    have := List.length_filter_le pend L
    have := hLn.out
    omega
  go_upto_region 6 with fail
  refine wp_region_drawn (Rel := fun w w' => Below w.heap.size w w') (Pr := PrV [.int .i64 P1, .int .i64 P1, .bool false, .bool false, .int .i64 P2, .int .i64 P2, .bool false, .bool false, .bool false, .agg CF2, .slice la k lc, undef, .agg CF, .slice a k c, undef, .bool true, .bool false, .bool false] [11, 14] (fun _ v w => ∃ r c q, v = .slice r (List.length q) c ∧ IsQ pr (·.id) pend L q ∧ IAt w r q)) (by kernel_rfl) (by kernel_rfl) (drew_below _) bel_tr (PrV.mono fun _ _ _ _ h k => by obtain ⟨r, c, q, e, h1, h2⟩ := h; exact ⟨r, c, q, e, h1, h2.below k⟩) ?_ ?_
  · refine ⟨?_, ?_, ?_, ?_, ?_, ?_, ?_, ?_, ?_, ?_, ?_, ?_, ?_, ?_, ?_, ?_, ?_, ?_, trivial⟩
    · intro ac w1 hR hd2 hk2 Kx hK
      exact yes (want_n rfl) (wp_mv _ rfl _ (get_keep (hk2 9 (no_dst (by kernel_rfl))) rfl) (hK _ w1 (PrV.is rfl rfl) (Below.refl _ _)))
    · intro ac w1 hR hd2 hk2 Kx hK
      exact yes (want_n rfl) (wp_mv _ rfl _ (get_keep (hk2 11 (no_dst (by kernel_rfl))) rfl) (hK _ w1 (PrV.is rfl rfl) (Below.refl _ _)))
    · intro ac w1 hR hd2 hk2 Kx hK
      have e36 : ac.tmps[36]?.getD undef = (.int .i64 P1 : Value) := slot ((hd2 0 _ 36 rfl rfl rfl).val rfl)
      have e37 : ac.tmps[37]?.getD undef = (.int .i64 P1 : Value) := slot ((hd2 1 _ 37 rfl rfl rfl).val rfl)
      refine yes (want_n rfl) ?_
      have hv := hid (hK (.bool false) w1 (PrV.is rfl rfl) (Below.refl _ _))
      go_simp
      refine kq hv.out ?_
      simp
    · intro ac w1 hR hd2 hk2 Kx hK
      exact yes (want_n rfl) (wp_mv _ rfl _ ((hd2 2 _ 38 rfl rfl rfl).val rfl) (hK _ w1 (PrV.is rfl rfl) (Below.refl _ _)))
    · intro ac w1 hR hd2 hk2 Kx hK
      exact yes (want_g rfl rfl ((hd2 3 _ 39 rfl rfl rfl).val rfl)) (wp_mv _ rfl _ (get_keep (hk2 10 (no_dst (by kernel_rfl))) rfl) (hK _ w1 (PrV.is rfl rfl) (Below.refl _ _)))
    · intro ac w1 hR hd2 hk2 Kx hK
      exact yes (want_g rfl rfl ((hd2 3 _ 39 rfl rfl rfl).val rfl)) (wp_mv _ rfl _ (get_keep (hk2 12 (no_dst (by kernel_rfl))) rfl) (hK _ w1 (PrV.is rfl rfl) (Below.refl _ _)))
    · intro ac w1 hR hd2 hk2 Kx hK
      have e40 : ac.tmps[40]?.getD undef = (.int .i64 P2 : Value) := slot ((hd2 4 _ 40 rfl rfl rfl).val rfl)
      have e41 : ac.tmps[41]?.getD undef = (.int .i64 P2 : Value) := slot ((hd2 5 _ 41 rfl rfl rfl).val rfl)
      refine yes (want_g rfl rfl ((hd2 3 _ 39 rfl rfl rfl).val rfl)) ?_
      have hv := hid (hK (.bool false) w1 (PrV.is rfl rfl) (Below.refl _ _))
      go_simp
      refine kq hv.out ?_
      simp
    · intro ac w1 hR hd2 hk2 Kx hK
      exact yes (want_n rfl) (wp_pick _ _ _ rfl false _ ((hd2 3 _ 39 rfl rfl rfl).val rfl) ((hd2 6 _ 42 rfl rfl rfl).val rfl) (hK _ w1 (PrV.is rfl rfl) (Below.refl _ _)))
    · intro ac w1 hR hd2 hk2 Kx hK
      exact yes (want_n rfl) (wp_mv _ rfl _ ((hd2 7 _ 43 rfl rfl rfl).val rfl) (hK _ w1 (PrV.is rfl rfl) (Below.refl _ _)))
    · intro ac w1 hR hd2 hk2 Kx hK
      exact yes (want_g rfl rfl ((hd2 8 _ 44 rfl rfl rfl).val rfl)) (wp_load_row 28 _ rfl g7 (get_keep (hk2 7 (no_dst (by kernel_rfl))) rfl) 28 CF2 (0, 0) _ (by rw [hR.block _ g7lt]; exact c76.out) Tryz.underlying28 rfl (by rw [hcs2.out]; kernel_rfl) (hK _ w1 (PrV.is rfl rfl) (Below.refl _ _)))
    · intro ac w1 hR hd2 hk2 Kx hK
      exact yes (want_g rfl rfl ((hd2 8 _ 44 rfl rfl rfl).val rfl)) (wp_mv _ rfl _ (get_keep (hk2 8 (no_dst (by kernel_rfl))) rfl) (hK _ w1 (PrV.is rfl rfl) (Below.refl _ _)))
    · intro ac w1 hR hd2 hk2 Kx hK
      exact yes (want_g rfl rfl ((hd2 8 _ 44 rfl rfl rfl).val rfl)) (wp_callv 11 _ _ rfl _ Tryz.func11 rfl rfl _ (args2 ((hd2 9 _ 45 rfl rfl rfl).val rfl) ((hd2 10 _ 46 rfl rfl rfl).val rfl)) (kQ1.out w1 (bnext B6.out hR)) (by
        rintro e w' ⟨ra, rc, q, rfl, hq, hqa, hqc, hb9⟩
        exact ⟨_, rfl, hK _ _ (PrV.by rfl ⟨ra, rc, q, rfl, hq, hqa⟩) hb9⟩))
    · intro ac w1 hR hd2 hk2 Kx hK
      exact yes (want_g rfl rfl ((hd2 8 _ 44 rfl rfl rfl).val rfl)) (wp_load_row 28 _ rfl g3 (get_keep (hk2 3 (no_dst (by kernel_rfl))) rfl) 28 CF (0, 0) _ (by rw [hR.block _ g3lt]; exact c06.out) Tryz.underlying28 rfl (by rw [hcs.out]; kernel_rfl) (hK _ w1 (PrV.is rfl rfl) (Below.refl _ _)))
    · intro ac w1 hR hd2 hk2 Kx hK
      exact yes (want_g rfl rfl ((hd2 8 _ 44 rfl rfl rfl).val rfl)) (wp_mv _ rfl _ (get_keep (hk2 1 (no_dst (by kernel_rfl))) rfl) (hK _ w1 (PrV.is rfl rfl) (Below.refl _ _)))
    · intro ac w1 hR hd2 hk2 Kx hK
      exact yes (want_g rfl rfl ((hd2 8 _ 44 rfl rfl rfl).val rfl)) (wp_callv 12 _ _ rfl _ Tryz.func12 rfl rfl _ (args2 ((hd2 12 _ 48 rfl rfl rfl).val rfl) ((hd2 13 _ 49 rfl rfl rfl).val rfl)) (kQ2.out w1 (bnext B6.out hR)) (by
        rintro e w' ⟨ra, rc, q, rfl, hq, hqa, hqc, hb9⟩
        exact ⟨_, rfl, hK _ _ (PrV.by rfl ⟨ra, rc, q, rfl, hq, hqa⟩) hb9⟩))
    · intro ac w1 hR hd2 hk2 Kx hK
      obtain ⟨r1, d1, q1, ee1, hq1, hi1⟩ := (hd2 11 _ 47 rfl rfl rfl).out rfl
      obtain ⟨r2, d2, q2, ee2, hq2, hi2⟩ := (hd2 14 _ 50 rfl rfl rfl).out rfl
      have e9 : q2 = q1 := IsQ.uniq pr (·.id) hq1 hq2
      subst e9
      exact yes (want_g rfl rfl ((hd2 8 _ 44 rfl rfl rfl).val rfl)) (wp_callv 10 _ _ rfl _ Tryz.func10 rfl rfl _ (args2 ee1 ee2) (sameints r1 r2 _ d1 d2 q2 w1 rfl (by have := hqlen.out q2 hq2; omega) hi1 hi2) (by rintro e w' ⟨rfl, hb9⟩; exact ⟨_, rfl, hK _ _ (PrV.is rfl rfl) hb9⟩))
    · intro ac w1 hR hd2 hk2 Kx hK
      have e51 : ac.tmps[51]?.getD undef = (.bool true : Value) := slot ((hd2 15 _ 51 rfl rfl rfl).val rfl)
      refine yes (want_g rfl rfl ((hd2 8 _ 44 rfl rfl rfl).val rfl)) ?_
      have hv := hid (hK (.bool false) w1 (PrV.is rfl rfl) (Below.refl _ _))
      go_simp
      refine kq hv.out ?_
      rfl
    · intro ac w1 hR hd2 hk2 Kx hK
      exact yes (want_n rfl) (wp_pick _ _ _ rfl false _ ((hd2 8 _ 44 rfl rfl rfl).val rfl) ((hd2 16 _ 52 rfl rfl rfl).val rfl) (hK _ w1 (PrV.is rfl rfl) (Below.refl _ _)))
  · intro ac w7 hdf hsz2 hkp hval hRw
    obtain ⟨ff, hf⟩ : ∃ ff, ff = fun d => ac.tmps.getD d undef := ⟨_, rfl⟩
    have h53 : ff 53 = .bool false := by rw [hf]; exact (hval 17 _ 53 rfl rfl).val rfl
    have hfa := act_filled hdf hsz2 hkp
    rw [← hf] at hfa
    rw [hfa]
    clear hdf hsz2 hkp hval hfa hf
    clear ac
    simp only [fillAll, List.set_cons_zero, List.set_cons_succ, h53]
    have B7 := hid (bnext B6.out hRw)
    clear hRw h53 c06 c76 g3lt g7lt B6 kQ1 kQ2 hqlen
    go_wp2_with fail
    go_loopw [13] (fun i wr => ∃ j : Nat, j ≤ k ∧ i = .int .i64 (j : Int) ∧ Below W4.heap.size W4 wr) (fun i _ => k - (intOf i).toNat)
    case atStart => exact ⟨0, Nat.zero_le _, rfl, B7.out⟩
    case round =>
      obtain ⟨j, hj, rfl, hb⟩ := hrel
      clear B7
      have c0r := hid (show wr.heap[g3]? = some (.cells CF 28 (0, 0)) by rw [hb.block _ lt04]; exact c04.out)
      have c7r := hid (show wr.heap[g7]? = some (.cells CF2 28 (0, 0)) by rw [hb.block _ lt74]; exact c74.out)
      have c1r := hid (show wr.heap[g5]? = some (.cells (jc J).toArray 37 (0, 0)) by rw [hb.block _ lt14]; exact c14.out)
      have g3r : g3 < wr.heap.size := by have := hb.size; omega
      have g5r : g5 < wr.heap.size := by have := hb.size; omega
      have g7r : g7 < wr.heap.size := by have := hb.size; omega
      by_cases hlt : j < k
      · have hjL : j < L.length := by rw [hLn.out]; exact hlt
        have hjL2 : j < (MJ'.map (·.1)).length := by rw [hLn2.out]; exact hlt
        obtain ⟨b, o, e⟩ := hat4.out.place (by omega)
        subst e
        obtain ⟨b2, o2, e⟩ := hL4.out.place (by omega)
        subst e
        have hrY := hid ((hat4.out.below hb).range hjL)
        have hrZ := hid ((hL4.out.below hb).range hjL2)
        obtain ⟨Y, hY⟩ : ∃ Y, Y = jobAt L j := ⟨_, rfl⟩
        obtain ⟨Z, hZ⟩ : ∃ Z, Z = jobAt (MJ'.map (·.1)) j := ⟨_, rfl⟩
        obtain ⟨x9, y9, hZY⟩ := jobAt_re hre9.out (show j < MJ.length by rw [hn.out]; exact hlt)
        rw [← hZ, ← hL.out, ← hY] at hZY
        rw [← hY] at hrY
        rw [← hZ] at hrZ
        obtain ⟨b1, hb1⟩ : ∃ b1, b1 = aheadB pr (·.id) J Y := ⟨_, rfl⟩
        obtain ⟨b9, hb9⟩ : ∃ b9, b9 = aheadB pr (·.id) Y J := ⟨_, rfl⟩
        have e1 : Hid (aheadB pr (·.id) J Z = b1) := hid (by rw [hb1, hZY]; unfold aheadB; rw [hprre.out]; rfl)
        have e2 : Hid (aheadB pr (·.id) Z J = b9) := hid (by rw [hb9, hZY]; unfold aheadB; rw [hprre.out]; rfl)
        have hjk : (j : Int) < (k : Int) := by omega
        replace hb1 := hid hb1
        replace hb9 := hid hb9
        replace hY := hid hY
        replace hZ := hid hZ
        replace hZY := hid hZY
        replace hb := hid hb
        go_upto_region 11 with fail
        refine wp_region_drawn (Rel := fun w w' => Below w.heap.size w w') (Pr := PrV [.agg CF2, .agg (jc J).toArray, .slice (some ⟨b2, o2, none⟩) k lc, .int .i64 (j : Int), .pointer (some ⟨b2, o2 + j * 17, none⟩), .agg (jc Z).toArray, .bool b1, .agg CF, .agg (jc J).toArray, .slice (some ⟨b, o, none⟩) k c, .int .i64 (j : Int), .pointer (some ⟨b, o + j * 17, none⟩), .agg (jc Y).toArray, .bool b1, .bool false, .bool false, .agg CF2, .slice (some ⟨b2, o2, none⟩) k lc, .int .i64 (j : Int), .pointer (some ⟨b2, o2 + j * 17, none⟩), .agg (jc Z).toArray, .agg (jc J).toArray, .bool b9, .agg CF, .slice (some ⟨b, o, none⟩) k c, .int .i64 (j : Int), .pointer (some ⟨b, o + j * 17, none⟩), .agg (jc Y).toArray, .agg (jc J).toArray, .bool b9, .bool false, .bool false] [] (fun _ _ _ => True)) (by kernel_rfl) (by kernel_rfl) (drew_below _) bel_tr (PrV.mono (fun _ _ _ _ _ _ => trivial)) ?_ ?_
        · refine ⟨?_, ?_, ?_, ?_, ?_, ?_, ?_, ?_, ?_, ?_, ?_, ?_, ?_, ?_, ?_, ?_, ?_, ?_, ?_, ?_, ?_, ?_, ?_, ?_, ?_, ?_, ?_, ?_, ?_, ?_, ?_, ?_, trivial⟩
          · intro ac w1 hR hd2 hk2 Kx hK
            exact yes (want_n rfl) (wp_load_row 28 _ rfl g7 (get_keep (hk2 7 (no_dst (by kernel_rfl))) rfl) 28 CF2 (0, 0) _ (by rw [hR.block _ g7r]; exact c7r.out) Tryz.underlying28 rfl (by rw [hcs2.out]; kernel_rfl) (hK _ w1 (PrV.is rfl rfl) (Below.refl _ _)))
          · intro ac w1 hR hd2 hk2 Kx hK
            exact yes (want_n rfl) (wp_load_row 37 _ rfl g5 (get_keep (hk2 5 (no_dst (by kernel_rfl))) rfl) 37 (jc J).toArray (0, 0) _ (by rw [hR.block _ g5r]; exact c1r.out) Tryz.underlying37 rfl (by kernel_rfl) (hK _ w1 (PrV.is rfl rfl) (Below.refl _ _)))
          · intro ac w1 hR hd2 hk2 Kx hK
            exact yes (want_n rfl) (wp_mv _ rfl _ (get_keep (hk2 8 (no_dst (by kernel_rfl))) rfl) (hK _ w1 (PrV.is rfl rfl) (Below.refl _ _)))
          · intro ac w1 hR hd2 hk2 Kx hK
            exact yes (want_n rfl) (wp_mv _ rfl _ (get_keep (hk2 13 (no_dst (by kernel_rfl))) rfl) (hK _ w1 (PrV.is rfl rfl) (Below.refl _ _)))
          · intro ac w1 hR hd2 hk2 Kx hK
            have e62 : ac.tmps[62]?.getD undef = (.slice (some ⟨b2, o2, none⟩) k lc : Value) := slot ((hd2 2 _ 62 rfl rfl rfl).val rfl)
            have e63 : ac.tmps[63]?.getD undef = (.int .i64 (j : Int) : Value) := slot ((hd2 3 _ 63 rfl rfl rfl).val rfl)
            refine yes (want_n rfl) ?_
            have hv := hid (hK (.pointer (some ⟨b2, o2 + j * 17, none⟩)) w1 (PrV.is rfl rfl) (Below.refl _ _))
            go_simp
            refine kq hv.out ?_
            rfl
          · intro ac w1 hR hd2 hk2 Kx hK
            exact yes (want_n rfl) (wp_load_mid 37 _ rfl b2 (o2 + j * 17) ((hd2 4 _ 64 rfl rfl rfl).val rfl) (jc Z) _ (range_below hrZ.out hR) Tryz.underlying37 rfl (by kernel_rfl) (hK _ w1 (PrV.is rfl rfl) (Below.refl _ _)))
          · intro ac w1 hR hd2 hk2 Kx hK
            exact yes (want_n rfl) (wp_callv 13 _ _ rfl _ Tryz.func13 rfl rfl _ (args3 ((hd2 0 _ 60 rfl rfl rfl).val rfl) ((hd2 1 _ 61 rfl rfl rfl).val rfl) ((hd2 5 _ 65 rfl rfl rfl).val rfl)) (kA1.out w1 (bnext hb.out hR) J Z) (by rintro e w2 ⟨rfl, hb7⟩; exact ⟨_, rfl, hK _ _ (PrV.is rfl (by rw [e1.out]; rfl)) hb7⟩))
          · intro ac w1 hR hd2 hk2 Kx hK
            exact yes (want_n rfl) (wp_load_row 28 _ rfl g3 (get_keep (hk2 3 (no_dst (by kernel_rfl))) rfl) 28 CF (0, 0) _ (by rw [hR.block _ g3r]; exact c0r.out) Tryz.underlying28 rfl (by rw [hcs.out]; kernel_rfl) (hK _ w1 (PrV.is rfl rfl) (Below.refl _ _)))
          · intro ac w1 hR hd2 hk2 Kx hK
            exact yes (want_n rfl) (wp_load_row 37 _ rfl g5 (get_keep (hk2 5 (no_dst (by kernel_rfl))) rfl) 37 (jc J).toArray (0, 0) _ (by rw [hR.block _ g5r]; exact c1r.out) Tryz.underlying37 rfl (by kernel_rfl) (hK _ w1 (PrV.is rfl rfl) (Below.refl _ _)))
          · intro ac w1 hR hd2 hk2 Kx hK
            exact yes (want_n rfl) (wp_mv _ rfl _ (get_keep (hk2 1 (no_dst (by kernel_rfl))) rfl) (hK _ w1 (PrV.is rfl rfl) (Below.refl _ _)))
          · intro ac w1 hR hd2 hk2 Kx hK
            exact yes (want_n rfl) (wp_mv _ rfl _ (get_keep (hk2 13 (no_dst (by kernel_rfl))) rfl) (hK _ w1 (PrV.is rfl rfl) (Below.refl _ _)))
          · intro ac w1 hR hd2 hk2 Kx hK
            have e69 : ac.tmps[69]?.getD undef = (.slice (some ⟨b, o, none⟩) k c : Value) := slot ((hd2 9 _ 69 rfl rfl rfl).val rfl)
            have e70 : ac.tmps[70]?.getD undef = (.int .i64 (j : Int) : Value) := slot ((hd2 10 _ 70 rfl rfl rfl).val rfl)
            refine yes (want_n rfl) ?_
            have hv := hid (hK (.pointer (some ⟨b, o + j * 17, none⟩)) w1 (PrV.is rfl rfl) (Below.refl _ _))
            go_simp
            refine kq hv.out ?_
            rfl
          · intro ac w1 hR hd2 hk2 Kx hK
            exact yes (want_n rfl) (wp_load_mid 37 _ rfl b (o + j * 17) ((hd2 11 _ 71 rfl rfl rfl).val rfl) (jc Y) _ (range_below hrY.out hR) Tryz.underlying37 rfl (by kernel_rfl) (hK _ w1 (PrV.is rfl rfl) (Below.refl _ _)))
          · intro ac w1 hR hd2 hk2 Kx hK
            exact yes (want_n rfl) (wp_callv 14 _ _ rfl _ Tryz.func14 rfl rfl _ (args3 ((hd2 7 _ 67 rfl rfl rfl).val rfl) ((hd2 8 _ 68 rfl rfl rfl).val rfl) ((hd2 12 _ 72 rfl rfl rfl).val rfl)) (kA2.out w1 (bnext hb.out hR) J Y) (by rintro e w2 ⟨rfl, hb7⟩; exact ⟨_, rfl, hK _ _ (PrV.is rfl (by rw [← hb1.out]; rfl)) hb7⟩))
          · intro ac w1 hR hd2 hk2 Kx hK
            have e66 : ac.tmps[66]?.getD undef = (.bool b1 : Value) := slot ((hd2 6 _ 66 rfl rfl rfl).val rfl)
            have e73 : ac.tmps[73]?.getD undef = (.bool b1 : Value) := slot ((hd2 13 _ 73 rfl rfl rfl).val rfl)
            refine yes (want_n rfl) ?_
            have hv := hid (hK (.bool false) w1 (PrV.is rfl rfl) (Below.refl _ _))
            go_simp
            refine kq hv.out ?_
            cases b1 <;> rfl
          · intro ac w1 hR hd2 hk2 Kx hK
            exact yes (want_n rfl) (wp_mv _ rfl _ ((hd2 14 _ 74 rfl rfl rfl).val rfl) (hK _ w1 (PrV.is rfl rfl) (Below.refl _ _)))
          · intro ac w1 hR hd2 hk2 Kx hK
            exact yes (want_g rfl rfl ((hd2 15 _ 75 rfl rfl rfl).val rfl)) (wp_load_row 28 _ rfl g7 (get_keep (hk2 7 (no_dst (by kernel_rfl))) rfl) 28 CF2 (0, 0) _ (by rw [hR.block _ g7r]; exact c7r.out) Tryz.underlying28 rfl (by rw [hcs2.out]; kernel_rfl) (hK _ w1 (PrV.is rfl rfl) (Below.refl _ _)))
          · intro ac w1 hR hd2 hk2 Kx hK
            exact yes (want_g rfl rfl ((hd2 15 _ 75 rfl rfl rfl).val rfl)) (wp_mv _ rfl _ (get_keep (hk2 8 (no_dst (by kernel_rfl))) rfl) (hK _ w1 (PrV.is rfl rfl) (Below.refl _ _)))
          · intro ac w1 hR hd2 hk2 Kx hK
            exact yes (want_g rfl rfl ((hd2 15 _ 75 rfl rfl rfl).val rfl)) (wp_mv _ rfl _ (get_keep (hk2 13 (no_dst (by kernel_rfl))) rfl) (hK _ w1 (PrV.is rfl rfl) (Below.refl _ _)))
          · intro ac w1 hR hd2 hk2 Kx hK
            have e77 : ac.tmps[77]?.getD undef = (.slice (some ⟨b2, o2, none⟩) k lc : Value) := slot ((hd2 17 _ 77 rfl rfl rfl).val rfl)
            have e78 : ac.tmps[78]?.getD undef = (.int .i64 (j : Int) : Value) := slot ((hd2 18 _ 78 rfl rfl rfl).val rfl)
            refine yes (want_g rfl rfl ((hd2 15 _ 75 rfl rfl rfl).val rfl)) ?_
            have hv := hid (hK (.pointer (some ⟨b2, o2 + j * 17, none⟩)) w1 (PrV.is rfl rfl) (Below.refl _ _))
            go_simp
            refine kq hv.out ?_
            rfl
          · intro ac w1 hR hd2 hk2 Kx hK
            exact yes (want_g rfl rfl ((hd2 15 _ 75 rfl rfl rfl).val rfl)) (wp_load_mid 37 _ rfl b2 (o2 + j * 17) ((hd2 19 _ 79 rfl rfl rfl).val rfl) (jc Z) _ (range_below hrZ.out hR) Tryz.underlying37 rfl (by kernel_rfl) (hK _ w1 (PrV.is rfl rfl) (Below.refl _ _)))
          · intro ac w1 hR hd2 hk2 Kx hK
            exact yes (want_g rfl rfl ((hd2 15 _ 75 rfl rfl rfl).val rfl)) (wp_load_row 37 _ rfl g5 (get_keep (hk2 5 (no_dst (by kernel_rfl))) rfl) 37 (jc J).toArray (0, 0) _ (by rw [hR.block _ g5r]; exact c1r.out) Tryz.underlying37 rfl (by kernel_rfl) (hK _ w1 (PrV.is rfl rfl) (Below.refl _ _)))
          · intro ac w1 hR hd2 hk2 Kx hK
            exact yes (want_g rfl rfl ((hd2 15 _ 75 rfl rfl rfl).val rfl)) (wp_callv 13 _ _ rfl _ Tryz.func13 rfl rfl _ (args3 ((hd2 16 _ 76 rfl rfl rfl).val rfl) ((hd2 20 _ 80 rfl rfl rfl).val rfl) ((hd2 21 _ 81 rfl rfl rfl).val rfl)) (kA1.out w1 (bnext hb.out hR) Z J) (by rintro e w2 ⟨rfl, hb7⟩; exact ⟨_, rfl, hK _ _ (PrV.is rfl (by rw [e2.out]; rfl)) hb7⟩))
          · intro ac w1 hR hd2 hk2 Kx hK
            exact yes (want_g rfl rfl ((hd2 15 _ 75 rfl rfl rfl).val rfl)) (wp_load_row 28 _ rfl g3 (get_keep (hk2 3 (no_dst (by kernel_rfl))) rfl) 28 CF (0, 0) _ (by rw [hR.block _ g3r]; exact c0r.out) Tryz.underlying28 rfl (by rw [hcs.out]; kernel_rfl) (hK _ w1 (PrV.is rfl rfl) (Below.refl _ _)))
          · intro ac w1 hR hd2 hk2 Kx hK
            exact yes (want_g rfl rfl ((hd2 15 _ 75 rfl rfl rfl).val rfl)) (wp_mv _ rfl _ (get_keep (hk2 1 (no_dst (by kernel_rfl))) rfl) (hK _ w1 (PrV.is rfl rfl) (Below.refl _ _)))
          · intro ac w1 hR hd2 hk2 Kx hK
            exact yes (want_g rfl rfl ((hd2 15 _ 75 rfl rfl rfl).val rfl)) (wp_mv _ rfl _ (get_keep (hk2 13 (no_dst (by kernel_rfl))) rfl) (hK _ w1 (PrV.is rfl rfl) (Below.refl _ _)))
          · intro ac w1 hR hd2 hk2 Kx hK
            have e84 : ac.tmps[84]?.getD undef = (.slice (some ⟨b, o, none⟩) k c : Value) := slot ((hd2 24 _ 84 rfl rfl rfl).val rfl)
            have e85 : ac.tmps[85]?.getD undef = (.int .i64 (j : Int) : Value) := slot ((hd2 25 _ 85 rfl rfl rfl).val rfl)
            refine yes (want_g rfl rfl ((hd2 15 _ 75 rfl rfl rfl).val rfl)) ?_
            have hv := hid (hK (.pointer (some ⟨b, o + j * 17, none⟩)) w1 (PrV.is rfl rfl) (Below.refl _ _))
            go_simp
            refine kq hv.out ?_
            rfl
          · intro ac w1 hR hd2 hk2 Kx hK
            exact yes (want_g rfl rfl ((hd2 15 _ 75 rfl rfl rfl).val rfl)) (wp_load_mid 37 _ rfl b (o + j * 17) ((hd2 26 _ 86 rfl rfl rfl).val rfl) (jc Y) _ (range_below hrY.out hR) Tryz.underlying37 rfl (by kernel_rfl) (hK _ w1 (PrV.is rfl rfl) (Below.refl _ _)))
          · intro ac w1 hR hd2 hk2 Kx hK
            exact yes (want_g rfl rfl ((hd2 15 _ 75 rfl rfl rfl).val rfl)) (wp_load_row 37 _ rfl g5 (get_keep (hk2 5 (no_dst (by kernel_rfl))) rfl) 37 (jc J).toArray (0, 0) _ (by rw [hR.block _ g5r]; exact c1r.out) Tryz.underlying37 rfl (by kernel_rfl) (hK _ w1 (PrV.is rfl rfl) (Below.refl _ _)))
          · intro ac w1 hR hd2 hk2 Kx hK
            exact yes (want_g rfl rfl ((hd2 15 _ 75 rfl rfl rfl).val rfl)) (wp_callv 14 _ _ rfl _ Tryz.func14 rfl rfl _ (args3 ((hd2 23 _ 83 rfl rfl rfl).val rfl) ((hd2 27 _ 87 rfl rfl rfl).val rfl) ((hd2 28 _ 88 rfl rfl rfl).val rfl)) (kA2.out w1 (bnext hb.out hR) Y J) (by rintro e w2 ⟨rfl, hb7⟩; exact ⟨_, rfl, hK _ _ (PrV.is rfl (by rw [← hb9.out]; rfl)) hb7⟩))
          · intro ac w1 hR hd2 hk2 Kx hK
            have e82 : ac.tmps[82]?.getD undef = (.bool b9 : Value) := slot ((hd2 22 _ 82 rfl rfl rfl).val rfl)
            have e89 : ac.tmps[89]?.getD undef = (.bool b9 : Value) := slot ((hd2 29 _ 89 rfl rfl rfl).val rfl)
            refine yes (want_g rfl rfl ((hd2 15 _ 75 rfl rfl rfl).val rfl)) ?_
            have hv := hid (hK (.bool false) w1 (PrV.is rfl rfl) (Below.refl _ _))
            go_simp
            refine kq hv.out ?_
            cases b9 <;> rfl
          · intro ac w1 hR hd2 hk2 Kx hK
            exact yes (want_n rfl) (wp_pick _ _ _ rfl false _ ((hd2 15 _ 75 rfl rfl rfl).val rfl) ((hd2 30 _ 90 rfl rfl rfl).val rfl) (hK _ w1 (PrV.is rfl rfl) (Below.refl _ _)))
        · intro ac w8 hdf hsz2 hkp hval hRw
          obtain ⟨fg, hf⟩ : ∃ fg, fg = fun d => ac.tmps.getD d undef := ⟨_, rfl⟩
          have h91 : fg 91 = .bool false := by rw [hf]; exact (hval 31 _ 91 rfl rfl).val rfl
          have hfa := act_filled hdf hsz2 hkp
          rw [← hf] at hfa
          rw [hfa]
          clear hdf hsz2 hkp hval hfa hf
          clear ac
          simp only [fillAll, List.set_cons_zero, List.set_cons_succ, h91]
          have B8 := bnext hb.out hRw
          clear hRw h91 c0r c7r c1r g3r g5r g7r hrY hrZ
          go_wp2_with fail
          go_roundw
          case rel => exact ⟨j + 1, by omega, by go_num, B8⟩
          case measure => simp [intOf]; omega
      · have hje : ¬ (j : Int) < (k : Int) := by omega
        have kS := kSc.out wr hb
        replace hb := hid hb
        go_wp2_with (first | (refine wpList_load_row rfl 28 (.tmp 7) rfl g7 rfl 28 CF2 (0, 0) _ c7r.out Tryz.underlying28 rfl (by rw [hcs2.out]; kernel_rfl) ?_) | (refine wpList_load_row rfl 28 (.tmp 3) rfl g3 rfl 28 CF (0, 0) _ c0r.out Tryz.underlying28 rfl (by rw [hcs.out]; kernel_rfl) ?_))
        refine kS.mono ?_
        clear kS
        rintro e w8 ⟨rfl, hb8⟩
        have B8 := hid (bnext hb.out hb8)
        have kT := kSj.out w8 B8.out
        clear hb8
        go_wp2_with fail
        refine kT.mono ?_
        clear kT
        rintro e w9 ⟨rfl, hb9⟩
        have B9 := hid (bnext B8.out hb9)
        clear hb9
        go_wp2_with fail
        refine (awake_any _).mono ?_
        rintro e w10 ⟨rfl, hb10⟩
        have B10 := hid (bnext B9.out hb10)
        clear hb10
        go_wp2
        go_ret
        exact ⟨rfl, by rw [hg3.out]; exact D4.out.trans (B10.out.mono (by have := D4.out.size; have := hg3.out; omega))⟩
end Go.Proofs.YtflapjehkgefdaaGreat
