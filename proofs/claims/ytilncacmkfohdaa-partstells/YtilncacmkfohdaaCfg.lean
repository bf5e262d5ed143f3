/- Copies and sameness of configs. -/
import Derived.Test.YtilncacmkfohdaaSm
import Derived.Test.YtilncacmkfohdaaArg
namespace Go.Proofs.Ytilncacmkfohdaa
open Go.RowKit
set_option linter.unusedVariables false

/-- What the copies are. -/
def Cf2 (w : World) (ca pa aa qa : Option Addr) (az qc : Nat) (ak qk : Nat) (M' : List (Prt × List ByteArray)) (I : List Int) (M : List (Prt × List ByteArray)) (A : List Acc) (Q : List Qu) : Prop :=
  IAt w ca I ∧ PtAt w pa (M'.map (·.1)) ∧ ReP M M' ∧ (∀ p ∈ M', TAt w p.1.da p.2) ∧ AAt w aa A ∧ ak ≤ az ∧ QAt w qa Q ∧ qk ≤ qc
theorem Cf2.below {w w' : World} {ca pa aa qa : Option Addr} {az qc ak qk : Nat} {M' : List (Prt × List ByteArray)} {I : List Int} {M : List (Prt × List ByteArray)} {A : List Acc} {Q : List Qu} (h : Cf2 w ca pa aa qa az qc ak qk M' I M A Q) (hb : Below w.heap.size w w') : Cf2 w' ca pa aa qa az qc ak qk M' I M A Q := by
  obtain ⟨h1, h2, h3, h4, h5, h6, h7, h8⟩ := h
  exact ⟨h1.below hb, h2.below hb, h3, fun p hp => (h4 p hp).below hb, h5.below hb, h6, h7.below hb, h8⟩

theorem PO.low {w : World} {base base' : Nat} {v : Value} {M : List (Prt × List ByteArray)} (h : PO w base v M) (hb : base' ≤ base) : PO w base' v M := ⟨owns_low h.own hb, fun p hp => owns_low (h.dep p hp) hb, h.off⟩
theorem own_kp {S : Nat → Prop} {w w' : World} {base : Nat} {e : TypeId} {size : Nat} {v : Value} {n : Nat} {xs : List Value} (h : w.ownsRow base e size v n xs) (hk : Kp S w w') (hS : ∀ k, S k → k < base) : w'.ownsRow base e size v n xs :=
  owns_kp h hk (fun k hk2 hs => by have h1 := (World.ownsRow.lt h k hk2).1; have h2 := hS k hs; omega)
/-- The copies, each of the call's own. -/
def Cf3 (w : World) (B : Nat) (ca pa aa qa : Option Addr) (cc pc az qc : Nat) (cn pn ak qk : Nat) (M' : List (Prt × List ByteArray)) (I : List Int) (M : List (Prt × List ByteArray)) (A : List Acc) (Q : List Qu) : Prop :=
  IOwn w B (.slice ca cn cc) I ∧ PO w B (.slice pa pn pc) M' ∧ ReP M M' ∧ AOwn w B (.slice aa ak az) A ∧ ak ≤ az ∧ QOwn w B (.slice qa qk qc) Q ∧ qk ≤ qc
theorem Cf3.kp {S : Nat → Prop} {w w' : World} {B : Nat} {ca pa aa qa : Option Addr} {cc pc az qc cn pn ak qk : Nat} {M' : List (Prt × List ByteArray)} {I : List Int} {M : List (Prt × List ByteArray)} {A : List Acc} {Q : List Qu} (h : Cf3 w B ca pa aa qa cc pc az qc cn pn ak qk M' I M A Q) (hk : Kp S w w') (hS : ∀ k, S k → k < B) : Cf2 w' ca pa aa qa az qc ak qk M' I M A Q := by
  obtain ⟨h1, h2, h3, h4, h5, h6, h7⟩ := h
  exact ⟨IOwn.iat (own_kp h1 hk hS), owns_cat (own_kp h2.own hk hS), h3, fun p hp => TOwn.tat (own_kp (h2.dep p hp) hk hS), AOwn.dat (own_kp h4 hk hS), h5, QOwn.qat (own_kp h6 hk hS), h7⟩

def Rc (B cn pn ak qk : Nat) (pol : Int) (I : List Int) (M : List (Prt × List ByteArray)) (A : List Acc) (Q : List Qu) (q : Nat) (v : Value) (w : World) : Prop :=
  match q with
  | 2 => ∃ ra rc, v = .slice ra cn rc ∧ IOwn w B (.slice ra cn rc) I
  | 5 => ∃ ra rc M', v = .slice ra pn rc ∧ PO w B (.slice ra pn rc) M' ∧ ReP M M'
  | 8 => ∃ ra rc, v = .slice ra ak rc ∧ AOwn w B (.slice ra ak rc) A ∧ ak ≤ rc
  | 11 => ∃ ra rc, v = .slice ra qk rc ∧ QOwn w B (.slice ra qk rc) Q ∧ qk ≤ rc
  | _ => ∃ ra rb re rg rc rd rf rh M', v = .agg #[.slice ra cn rc, .slice rb pn rd, .slice re ak rf, .slice rg qk rh, .int .u8 pol] ∧ Cf3 w B ra rb re rg rc rd rf rh cn pn ak qk M' I M A Q

theorem Rc.mono (B cn pn ak qk : Nat) (pol : Int) (I : List Int) (M : List (Prt × List ByteArray)) (A : List Acc) (Q : List Qu) (q : Nat) (v : Value) (w w' : World) (h : Rc B cn pn ak qk pol I M A Q q v w) (hb : Below w.heap.size w w') : Rc B cn pn ak qk pol I M A Q q v w' := by
  unfold Rc at *
  split at h
  · obtain ⟨ra, rc, e, h1⟩ := h; exact ⟨ra, rc, e, owns_below h1 hb⟩
  · obtain ⟨ra, rc, M', e, h1, h2⟩ := h; exact ⟨ra, rc, M', e, h1.below hb, h2⟩
  · obtain ⟨ra, rc, e, h1, h2⟩ := h; exact ⟨ra, rc, e, owns_below h1 hb, h2⟩
  · obtain ⟨ra, rc, e, h1, h2⟩ := h; exact ⟨ra, rc, e, owns_below h1 hb, h2⟩
  · obtain ⟨ra, rb, re, rg, rc, rd, rf, rh, M', e, h1, h2, h3, h4, h5, h6, h7⟩ := h
    exact ⟨ra, rb, re, rg, rc, rd, rf, rh, M', e, owns_below h1 hb, h2.below hb, h3, owns_below h4 hb, h5, owns_below h6 hb, h7⟩

def pv9 (ca pa aa qa : Option Addr) (cn cc pn pc ak az qk qc : Nat) (pol : Int) (g1 : Nat) : List Value := [.pointer (some ⟨g1, 0, none⟩), .slice ca cn cc, undef, .pointer (some ⟨g1, 1, none⟩), .slice pa pn pc, undef, .pointer (some ⟨g1, 2, none⟩), .slice aa ak az, undef, .pointer (some ⟨g1, 3, none⟩), .slice qa qk qc, undef, .pointer (some ⟨g1, 4, none⟩), .int .u8 pol, undef]

theorem cc_all (ca pa aa qa : Option Addr) (cn cc pn pc ak az qk qc : Nat) (pol : Int) : (#[.slice ca cn cc, .slice pa pn pc, .slice aa ak az, .slice qa qk qc, .int .u8 pol] : Array Value).all (·.oneCell') = true := by simp [Value.oneCell']

set_option maxRecDepth 100000 in
set_option maxHeartbeats 2000000 in
theorem copycfg (ca pa aa qa : Option Addr) (cn cc pn pc ak az qk qc : Nat) (pol : Int) (I : List Int) (M : List (Prt × List ByteArray)) (A : List Acc) (Q : List Qu) (w : World) (hin : CfgIn w ca pa aa qa cn cc pn pc ak az qk qc I M A Q) (hak : ak ≤ 1048576) :
    Calls Try.prog 7 #[.agg #[.slice ca cn cc, .slice pa pn pc, .slice aa ak az, .slice qa qk qc, .int .u8 pol]] w fun e w' => ∃ ca2 pa2 aa2 qa2 cc2 pc2 az2 qc2 M', e = .returned (.agg #[.slice ca2 cn cc2, .slice pa2 pn pc2, .slice aa2 ak az2, .slice qa2 qk qc2, .int .u8 pol]) ∧ Cf2 w' ca2 pa2 aa2 qa2 az2 qc2 ak qk M' I M A Q ∧ Below w.heap.size w w' := by
  obtain ⟨W0, hW0⟩ : ∃ W0, W0 = (w.alloc (.cells #[.slice ca cn cc, .slice pa pn pc, .slice aa ak az, .slice qa qk qc, .int .u8 pol] 28)).alloc (.cells #[.slice none 0 0, .slice none 0 0, .slice none 0 0, .slice none 0 0, .int .u8 0] 28) := ⟨_, rfl⟩
  have bl0 := below_lit w (.cells #[.slice ca cn cc, .slice pa pn pc, .slice aa ak az, .slice qa qk qc, .int .u8 pol] 28)
  have bl1 := below_lit (w.alloc (.cells #[.slice ca cn cc, .slice pa pn pc, .slice aa ak az, .slice qa qk qc, .int .u8 pol] 28)) (.cells #[.slice none 0 0, .slice none 0 0, .slice none 0 0, .slice none 0 0, .int .u8 0] 28)
  have bl := bnext bl0 bl1
  have cl := range_below (lit_range w 28 [.slice ca cn cc, .slice pa pn pc, .slice aa ak az, .slice qa qk qc, .int .u8 pol]) bl1
  have y0 := cl 0 _ rfl
  have y1 := cl 1 _ rfl
  have y2 := cl 2 _ rfl
  have y3 := cl 3 _ rfl
  have y4 := cl 4 _ rfl
  simp only [Nat.zero_add] at y0 y1 y2 y3 y4
  have r1 : W0.heap[w.heap.size + 1]? = some (.cells #[.slice none 0 0, .slice none 0 0, .slice none 0 0, .slice none 0 0, .int .u8 0] 28 (0, 0)) := by
    have := heap_alloc_new (w.alloc (.cells #[.slice ca cn cc, .slice pa pn pc, .slice aa ak az, .slice qa qk qc, .int .u8 pol] 28)) (.cells #[.slice none 0 0, .slice none 0 0, .slice none 0 0, .slice none 0 0, .int .u8 0] 28)
    rw [size_lit] at this
    rw [hW0]; exact this
  have hsz : W0.heap.size = w.heap.size + 1 + 1 := by rw [hW0, size_lit, size_lit]
  rw [← hW0] at bl y0 y1 y2 y3 y4
  have kI := fun wx (hb : Below W0.heap.size W0 wx) => copyints ca cn cc I wx hin.il (by have := hin.ib; omega) (hin.iat.below (bnext bl hb))
  have kP := fun wx (hb : Below W0.heap.size W0 wx) => copyP pa pn pc M wx hin.ml (by have := hin.mb; omega) (hin.mat.below (bnext bl hb)) (hin.min.below (bnext bl hb))
  have kA0 := fun wx (hb : Below W0.heap.size W0 wx) => copy_any aa ak az A wx hin.al hak (hin.aat.below (bnext bl hb))
  have kA : ∀ wx, Below W0.heap.size W0 wx → Calls Try.prog 23 #[.slice aa ak az] wx fun e w' => ∃ ra rc, e = .returned (.slice ra ak rc) ∧ ak ≤ rc ∧ AOwn w' wx.heap.size (.slice ra ak rc) A ∧ Below wx.heap.size wx w' := fun wx hb => by
    have := kA0 wx hb
    unfold ATold1 at this
    rw [hin.al] at this
    exact this
  have kQ := fun wx (hb : Below W0.heap.size W0 wx) => copyquals qa qk qc Q wx hin.ql (by have := hin.qb; omega) (hin.qat.below (bnext bl hb))
  clear kA0 cl bl0 bl1
  replace hin := hid hin
  replace kI := hid kI
  replace kP := hid kP
  replace kA := hid kA
  replace kQ := hid kQ
  replace y0 := hid y0
  replace y1 := hid y1
  replace y2 := hid y2
  replace y3 := hid y3
  replace y4 := hid y4
  replace r1 := hid r1
  go_enter Try.func7, Try.ntmps7
  go_wp2_with fail
  rw [← hW0]
  replace hW0 := hid hW0
  replace kI := kI.out
  replace kP := kP.out
  replace kA := kA.out
  replace kQ := kQ.out
  replace y0 := y0.out
  replace y1 := y1.out
  replace y2 := y2.out
  replace y3 := y3.out
  replace y4 := y4.out
  generalize hg1 : w.heap.size = g1 at y0 y1 y2 y3 y4 r1 ⊢
  refine Fr.wp_region_front 15 (Rel := fun w w' => Below w.heap.size w w') (Pr := PrV (pv9 ca pa aa qa cn cc pn pc ak az qk qc pol g1) [2, 5, 8, 11, 14] (Rc W0.heap.size cn pn ak qk pol I M A Q)) (by kernel_rfl) (by kernel_rfl) (drew_below _) bel_tr (PrV.mono (Rc.mono W0.heap.size cn pn ak qk pol I M A Q)) ?_ (by kernel_rfl) ?_
  · refine ⟨?_, ?_, ?_, ?_, ?_, ?_, ?_, ?_, ?_, ?_, ?_, ?_, ?_, ?_, ?_, trivial⟩
    · intro ac w hR hd hk K hK
      have e1 : ac.tmps[1]?.getD undef = (.pointer (some ⟨g1, 0, none⟩) : Value) := slot (get_keep (hk 1 (no_dst (by kernel_rfl))) rfl)
      refine yes (want_n rfl) ?_
      have hv := hid (hK (.pointer (some ⟨g1, 0, none⟩)) w (PrV.is rfl rfl) (Below.refl _ _))
      go_simp
      refine kq hv.out ?_
      rfl
    · intro ac w hR hd hk K hK
      have e3 : ac.tmps[3]?.getD undef = (.pointer (some ⟨g1, 0, none⟩) : Value) := slot ((hd 0 _ 3 rfl rfl rfl).val rfl)
      have x0 := stay hR y0
      refine yes (want_n rfl) ?_
      have hv := hid (hK (.slice ca cn cc) w (PrV.is rfl rfl) (Below.refl _ _))
      go_simp
      refine kq hv.out ?_
      rfl
    · intro ac w hR hd hk K hK
      refine yes (want_n rfl) ?_
      refine wp_callv 21 _ _ rfl _ Try.func21 rfl rfl _ (args1 ((hd 1 _ 4 rfl rfl rfl).val rfl)) (kI w hR) ?_
      rintro e w' ⟨ra, rc, rfl, hle, ho, hb⟩
      exact ⟨_, rfl, hK _ w' (PrV.by rfl ⟨ra, rc, rfl, owns_low ho hR.size⟩) hb⟩
    · intro ac w hR hd hk K hK
      have e1 : ac.tmps[1]?.getD undef = (.pointer (some ⟨g1, 0, none⟩) : Value) := slot (get_keep (hk 1 (no_dst (by kernel_rfl))) rfl)
      refine yes (want_n rfl) ?_
      have hv := hid (hK (.pointer (some ⟨g1, 1, none⟩)) w (PrV.is rfl rfl) (Below.refl _ _))
      go_simp
      refine kq hv.out ?_
      rfl
    · intro ac w hR hd hk K hK
      have e6 : ac.tmps[6]?.getD undef = (.pointer (some ⟨g1, 1, none⟩) : Value) := slot ((hd 3 _ 6 rfl rfl rfl).val rfl)
      have x0 := stay hR y1
      refine yes (want_n rfl) ?_
      have hv := hid (hK (.slice pa pn pc) w (PrV.is rfl rfl) (Below.refl _ _))
      go_simp
      refine kq hv.out ?_
      rfl
    · intro ac w hR hd hk K hK
      refine yes (want_n rfl) ?_
      refine wp_callv 22 _ _ rfl _ Try.func22 rfl rfl _ (args1 ((hd 4 _ 7 rfl rfl rfl).val rfl)) (kP w hR) ?_
      rintro e w' ⟨ra, rc, M', rfl, hle, ho, hre, hb⟩
      exact ⟨_, rfl, hK _ w' (PrV.by rfl ⟨ra, rc, M', rfl, ho.low hR.size, hre⟩) hb⟩
    · intro ac w hR hd hk K hK
      have e1 : ac.tmps[1]?.getD undef = (.pointer (some ⟨g1, 0, none⟩) : Value) := slot (get_keep (hk 1 (no_dst (by kernel_rfl))) rfl)
      refine yes (want_n rfl) ?_
      have hv := hid (hK (.pointer (some ⟨g1, 2, none⟩)) w (PrV.is rfl rfl) (Below.refl _ _))
      go_simp
      refine kq hv.out ?_
      rfl
    · intro ac w hR hd hk K hK
      have e9 : ac.tmps[9]?.getD undef = (.pointer (some ⟨g1, 2, none⟩) : Value) := slot ((hd 6 _ 9 rfl rfl rfl).val rfl)
      have x0 := stay hR y2
      refine yes (want_n rfl) ?_
      have hv := hid (hK (.slice aa ak az) w (PrV.is rfl rfl) (Below.refl _ _))
      go_simp
      refine kq hv.out ?_
      rfl
    · intro ac w hR hd hk K hK
      refine yes (want_n rfl) ?_
      refine wp_callv 23 _ _ rfl _ Try.func23 rfl rfl _ (args1 ((hd 7 _ 10 rfl rfl rfl).val rfl)) (kA w hR) ?_
      rintro e w' ⟨ra, rc, rfl, hle, ho, hb⟩
      exact ⟨_, rfl, hK _ w' (PrV.by rfl ⟨ra, rc, rfl, owns_low ho hR.size, hle⟩) hb⟩
    · intro ac w hR hd hk K hK
      have e1 : ac.tmps[1]?.getD undef = (.pointer (some ⟨g1, 0, none⟩) : Value) := slot (get_keep (hk 1 (no_dst (by kernel_rfl))) rfl)
      refine yes (want_n rfl) ?_
      have hv := hid (hK (.pointer (some ⟨g1, 3, none⟩)) w (PrV.is rfl rfl) (Below.refl _ _))
      go_simp
      refine kq hv.out ?_
      rfl
    · intro ac w hR hd hk K hK
      have e12 : ac.tmps[12]?.getD undef = (.pointer (some ⟨g1, 3, none⟩) : Value) := slot ((hd 9 _ 12 rfl rfl rfl).val rfl)
      have x0 := stay hR y3
      refine yes (want_n rfl) ?_
      have hv := hid (hK (.slice qa qk qc) w (PrV.is rfl rfl) (Below.refl _ _))
      go_simp
      refine kq hv.out ?_
      rfl
    · intro ac w hR hd hk K hK
      refine yes (want_n rfl) ?_
      refine wp_callv 24 _ _ rfl _ Try.func24 rfl rfl _ (args1 ((hd 10 _ 13 rfl rfl rfl).val rfl)) (kQ w hR) ?_
      rintro e w' ⟨ra, rc, rfl, hle, ho, hb⟩
      exact ⟨_, rfl, hK _ w' (PrV.by rfl ⟨ra, rc, rfl, owns_low ho hR.size, hle⟩) hb⟩
    · intro ac w hR hd hk K hK
      have e1 : ac.tmps[1]?.getD undef = (.pointer (some ⟨g1, 0, none⟩) : Value) := slot (get_keep (hk 1 (no_dst (by kernel_rfl))) rfl)
      refine yes (want_n rfl) ?_
      have hv := hid (hK (.pointer (some ⟨g1, 4, none⟩)) w (PrV.is rfl rfl) (Below.refl _ _))
      go_simp
      refine kq hv.out ?_
      rfl
    · intro ac w hR hd hk K hK
      have e15 : ac.tmps[15]?.getD undef = (.pointer (some ⟨g1, 4, none⟩) : Value) := slot ((hd 12 _ 15 rfl rfl rfl).val rfl)
      have x0 := stay hR y4
      refine yes (want_n rfl) ?_
      have hv := hid (hK (.int .u8 pol) w (PrV.is rfl rfl) (Below.refl _ _))
      go_simp
      refine kq hv.out ?_
      rfl
    · intro ac w hR hd hk K hK
      obtain ⟨ra, rc, e5, h5⟩ := (hd 2 _ 5 rfl rfl rfl).out rfl
      obtain ⟨rb, rd, M2, e8, h8, h8b⟩ := (hd 5 _ 8 rfl rfl rfl).out rfl
      obtain ⟨re, rf, e11, h11, h11b⟩ := (hd 8 _ 11 rfl rfl rfl).out rfl
      obtain ⟨rg, rh, e14, h14, h14b⟩ := (hd 11 _ 14 rfl rfl rfl).out rfl
      have t5 : ac.tmps[5]?.getD undef = (.slice ra cn rc : Value) := slot e5
      have t8 : ac.tmps[8]?.getD undef = (.slice rb pn rd : Value) := slot e8
      have t11 : ac.tmps[11]?.getD undef = (.slice re ak rf : Value) := slot e11
      have t14 : ac.tmps[14]?.getD undef = (.slice rg qk rh : Value) := slot e14
      have t16 : ac.tmps[16]?.getD undef = (.int .u8 pol : Value) := slot ((hd 13 _ 16 rfl rfl rfl).val rfl)
      refine yes (want_n rfl) ?_
      go_simp
      exact hK _ w (PrV.by rfl ⟨ra, rb, re, rg, rc, rd, rf, rh, M2, rfl, h5, h8, h8b, h11, h11b, h14, h14b⟩) (Below.refl _ _)
  · intro ac1 w1 hdf hsz1 hkp hval hRw
    obtain ⟨ca2, pa2, aa2, qa2, cc2, pc2, az2, qc2, M', q17, hC⟩ := (hval 14 _ 17 rfl rfl).out rfl
    obtain ⟨f, hf⟩ : ∃ f, f = fun d => ac1.tmps.getD d undef := ⟨_, rfl⟩
    have h17 : f 17 = (.agg #[.slice ca2 cn cc2, .slice pa2 pn pc2, .slice aa2 ak az2, .slice qa2 qk qc2, .int .u8 pol] : Value) := by rw [hf]; exact q17
    have hfa := act_filled hdf hsz1 hkp
    rw [← hf] at hfa
    rw [hfa]
    clear hdf hsz1 hkp hval hfa hf q17
    clear ac1
    simp only [fillAll, List.take, List.set_cons_zero, List.set_cons_succ, h17]
    clear h17
    have r2 : w1.heap[g1 + 1]? = some (.cells #[.slice none 0 0, .slice none 0 0, .slice none 0 0, .slice none 0 0, .int .u8 0] 28 (0, 0)) := by rw [hRw.block _ (by omega)]; exact r1.out
    have D1 := bnext bl hRw
    change wpAny Try.prog .any _ _ (0 + 1) _ _ _
    refine wpAny_ready (rs := [15]) (by kernel_rfl) (by simp) ?_
    refine AllReady.cons rfl (fun K hK => ?_) AllReady.nil
    refine yes (want_n rfl) ?_
    refine wp_store_row 28 (.tmp 2) (.tmp 17) rfl (g1 + 1) #[.slice ca2 cn cc2, .slice pa2 pn pc2, .slice aa2 ak az2, .slice qa2 qk qc2, .int .u8 pol] rfl rfl 28 _ r2 (by kernel_rfl) rfl (cc_all _ _ _ _ _ _ _ _ _ _ _ _ _) ?_
    refine hK _ _ ?_
    clear hK K
    refine wpAny_done (by kernel_rfl) ?_ _
    have D2 : Below w.heap.size w (w1.setRow (g1 + 1) #[.slice ca2 cn cc2, .slice pa2 pn pc2, .slice aa2 ak az2, .slice qa2 qk qc2, .int .u8 pol]) := below_setRow D1 (by omega) _
    have v1 := hid (setRow_heap w1 (g1 + 1) _ #[.slice ca2 cn cc2, .slice pa2 pn pc2, .slice aa2 ak az2, .slice qa2 qk qc2, .int .u8 pol] _ _ r2)
    have hkC : Cf2 (w1.setRow (g1 + 1) #[.slice ca2 cn cc2, .slice pa2 pn pc2, .slice aa2 ak az2, .slice qa2 qk qc2, .int .u8 pol]) ca2 pa2 aa2 qa2 az2 qc2 ak qk M' I M A Q := by
      refine hC.kp (S := fun k => k = g1 + 1) (kp_setRow (S := fun k => k = g1 + 1) (Kp.refl _ _) rfl _) (fun k hk => by omega)
    go_wp2
    (try simp only [Exit.inBlock, Exit.then])
    refine bodyPost_ret (results_cell_row rfl _ _ (g1 + 1) 28 #[.slice ca2 cn cc2, .slice pa2 pn pc2, .slice aa2 ak az2, .slice qa2 qk qc2, .int .u8 pol] (0, 0) _ rfl v1.out Try.underlying28 rfl (by kernel_rfl)) rfl ?_
    exact ⟨ca2, pa2, aa2, qa2, cc2, pc2, az2, qc2, M', rfl, hkC, D2⟩

set_option maxRecDepth 100000 in
set_option maxHeartbeats 2000000 in
theorem samecfg (ca pa aa qa : Option Addr) (cn cc pn pc ak az qk qc : Nat) (pol : Int) (I : List Int) (M : List (Prt × List ByteArray)) (A : List Acc) (Q : List Qu) (ca2 pa2 aa2 qa2 : Option Addr) (cc2 pc2 az2 qc2 : Nat) (M' : List (Prt × List ByteArray)) (w : World) (hin : CfgIn w ca pa aa qa cn cc pn pc ak az qk qc I M A Q) (hC : Cf2 w ca2 pa2 aa2 qa2 az2 qc2 ak qk M' I M A Q) :
    Calls Try.prog 16 #[.agg #[.slice ca2 cn cc2, .slice pa2 pn pc2, .slice aa2 ak az2, .slice qa2 qk qc2, .int .u8 pol], .agg #[.slice ca cn cc, .slice pa pn pc, .slice aa ak az, .slice qa qk qc, .int .u8 pol]] w fun e w' => e = .returned (.bool true) ∧ Below w.heap.size w w' := by
  obtain ⟨W0, hW0⟩ : ∃ W0, W0 = ((w.alloc (.cells #[.slice ca2 cn cc2, .slice pa2 pn pc2, .slice aa2 ak az2, .slice qa2 qk qc2, .int .u8 pol] 28)).alloc (.cells #[.slice ca cn cc, .slice pa pn pc, .slice aa ak az, .slice qa qk qc, .int .u8 pol] 28)) := ⟨_, rfl⟩
  have bl0 := below_lit w (.cells #[.slice ca2 cn cc2, .slice pa2 pn pc2, .slice aa2 ak az2, .slice qa2 qk qc2, .int .u8 pol] 28)
  have bl1 := below_lit (w.alloc (.cells #[.slice ca2 cn cc2, .slice pa2 pn pc2, .slice aa2 ak az2, .slice qa2 qk qc2, .int .u8 pol] 28)) (.cells #[.slice ca cn cc, .slice pa pn pc, .slice aa ak az, .slice qa qk qc, .int .u8 pol] 28)
  have bl := bnext bl0 bl1
  have cl := range_below (lit_range w 28 [.slice ca2 cn cc2, .slice pa2 pn pc2, .slice aa2 ak az2, .slice qa2 qk qc2, .int .u8 pol]) bl1
  have p1 := cl 1 _ rfl
  have p2 := cl 2 _ rfl
  have p3 := cl 3 _ rfl
  have dl := lit_range (w.alloc (.cells #[.slice ca2 cn cc2, .slice pa2 pn pc2, .slice aa2 ak az2, .slice qa2 qk qc2, .int .u8 pol] 28)) 28 [.slice ca cn cc, .slice pa pn pc, .slice aa ak az, .slice qa qk qc, .int .u8 pol]
  rw [size_lit] at dl
  have q1 := dl 1 _ rfl
  have q2 := dl 2 _ rfl
  have q3 := dl 3 _ rfl
  simp only [Nat.zero_add] at p1 p2 p3 q1 q2 q3
  clear cl dl
  rw [← hW0] at bl p1 p2 p3 q1 q2 q3
  obtain ⟨x1, x2, x3, x4, x5, x6, x7, x8⟩ := hC
  have kI := sameints ca2 ca cn cc2 cc I W0 hin.il (by have := hin.ib; omega) (x1.below bl) (hin.iat.below bl)
  have kP := fun wx (hb : Below w.heap.size w wx) => sameP pa2 pa pn pc2 pc M M' wx hin.ml (by have := hin.mb; omega) x3 (x2.below hb) (hin.mat.below hb) (fun p hp => (x4 p hp).below hb) (hin.min.below hb)
  have kA := fun wx (hb : Below w.heap.size w wx) => samea_any aa2 aa ak az2 az A wx hin.al (by have := hin.ab; omega) (x5.below hb) (hin.aat.below hb)
  have kQ := fun wx (hb : Below w.heap.size w wx) => samequals qa2 qa qk qc2 qc Q wx hin.ql (by have := hin.qb; omega) (x7.below hb) (hin.qat.below hb)
  clear x1 x2 x3 x4 x5 x6 x7 x8 bl0 bl1
  replace hin := hid hin
  go_enter Try.func16, Try.ntmps16
  go_wp2_with fail
  rw [← hW0]
  replace hW0 := hid hW0
  refine kI.mono ?_
  rintro e w1 ⟨rfl, hb1⟩
  have D1 := bnext bl hb1
  replace p1 := stay hb1 p1
  replace p2 := stay hb1 p2
  replace p3 := stay hb1 p3
  replace q1 := stay hb1 q1
  replace q2 := stay hb1 q2
  replace q3 := stay hb1 q3
  go_wp2_with fail
  refine (kP _ D1).mono ?_
  rintro e w2 ⟨rfl, hb2⟩
  have D2 := bnext D1 hb2
  replace p2 := stay hb2 p2
  replace p3 := stay hb2 p3
  replace q2 := stay hb2 q2
  replace q3 := stay hb2 q3
  go_wp2_with fail
  refine (kA _ D2).mono ?_
  rintro e w3 ⟨rfl, hb3⟩
  have D3 := bnext D2 hb3
  replace p3 := stay hb3 p3
  replace q3 := stay hb3 q3
  go_wp2_with fail
  refine (kQ _ D3).mono ?_
  rintro e w4 ⟨rfl, hb4⟩
  have D4 := bnext D3 hb4
  go_wp2
  go_ret
  exact ⟨rfl, D4⟩

end Go.Proofs.Ytilncacmkfohdaa
