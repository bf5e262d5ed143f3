/- What Open answers. -/
import Derived.Test.YtcbgnodmamcmkaaBehind
import Derived.Test.YtcbgnodmamcmkaaVals
import Derived.BigQuiet
namespace Go.Proofs.Ytcbgnodmamcmkaa
open Go.RowKit

theorem stAt_state {d : Dsk} : ∀ {j f : Nat}, stAt d j = some f → IsState (d.cur f) ∧ f ≤ j := by
  intro j
  induction j with
  | zero => intro f h; cases h
  | succ j ih =>
    intro f h
    by_cases hs : IsState (d.cur (j + 1))
    · by_cases hn : ∀ f, stAt d j = some f → numAt (d.cur f) 0 < numAt (d.cur (j + 1)) 0
      · rw [stAt_take hs hn] at h
        cases h
        exact ⟨hs, Nat.le_refl _⟩
      · obtain ⟨q, hq⟩ := Classical.not_forall.1 hn
        obtain ⟨h1, h2⟩ := Classical.not_imp.1 hq
        rw [stAt_old h1 h2] at h
        exact ⟨(ih h).1, Nat.le_succ_of_le (ih h).2⟩
    · rw [stAt_leave hs] at h
      exact ⟨(ih h).1, Nat.le_succ_of_le (ih h).2⟩

/-- The state's number and bytes. -/
def opNum (d : Dsk) : Nat := match stAt d 2 with | none => 0 | some f => numAt (d.cur f) 0
def opBody (d : Dsk) : List UInt8 := match stAt d 2 with | none => [] | some f => bodyAt (d.cur f) 0
def opFile (d : Dsk) : Nat := (stAt d 2).getD 2

theorem opNum_le (d : Dsk) : opNum d ≤ 4611686018427387904 := by
  unfold opNum
  cases h : stAt d 2 with
  | none => simp
  | some f => exact (stAt_state h).1.1.num

theorem StBox.flat {W : World} {base : Nat} {d : Dsk} {x y z : Value} (h : StBox W base d (stAt d 2) x y z) : ∃ (KV : Int) (sa : Option Addr) (sn sc : Nat), x = .int .i64 (opNum d : Int) ∧ y = .int .u8 KV ∧ z = .slice sa sn sc ∧ sn = (opBody d).length ∧ Own W base (.slice sa sn sc) (opBody d) := by
  unfold opNum opBody
  cases hq : stAt d 2 with
  | none =>
    rw [hq] at h
    obtain ⟨rfl, rfl, rfl⟩ := h
    exact ⟨0, none, 0, 0, rfl, rfl, rfl, rfl, Own.nil _ _⟩
  | some f =>
    rw [hq] at h
    obtain ⟨rfl, rfl, ba, bc, rfl, ho⟩ := h
    refine ⟨255, ba, _, bc, rfl, rfl, rfl, ?_, ho⟩
    obtain ⟨a', c', e, _⟩ := ho.form
    injection e

theorem stateon_flat (base p : Nat) (x : Dx) (d : Dsk) (M SF BN : Nat) (body : List UInt8) (w : World) (hs : Sole base w p x d) (hdn : d.down = false) (hM : M = opNum d) (hS : SF = opFile d) (hb : body = opBody d) (hbn : BN = body.length) :
    Calls Try.prog 42 #[.pointer (some ⟨p, 0, none⟩)] w fun e w' => ∃ (KV : Int) (sa : Option Addr) (sc : Nat), e = .returned (.tuple #[.agg #[.int .i64 (M : Int), .int .u8 KV, .slice sa BN sc], .int .i64 (SF : Int), .int .i64 0]) ∧ Own w' w.heap.size (.slice sa BN sc) body ∧ Below w.heap.size w w' := by
  subst hM; subst hS; subst hb; subst hbn
  refine (stateon_any base p x d w hs hdn).mono ?_
  rintro e w' ⟨vx, vy, vz, rfl, hst, hb⟩
  obtain ⟨KV, sa, sn, sc, rfl, rfl, rfl, rfl, ho⟩ := hst.flat
  exact ⟨KV, sa, sc, rfl, ho, hb⟩

/-- The places of a log's records. -/
def opPs (d : Dsk) : List Nat := poss (d.cur 0) ((d.cur 0).length + 1) 0 0
def stopP (l : List UInt8) (ps : List Nat) : Nat := match ps.getLast? with | some p => endAt l p | none => 0
theorem stop_map (l : List UInt8) (xs : List RX) : stopOf l xs = stopP l (xs.map (·.p)) := by
  unfold stopOf stopP
  rw [List.getLast?_map]
  cases xs.getLast? <;> rfl

theorem records_flat (a : Option Addr) (len cap S n : Nat) (l : List UInt8) (ps : List Nat) (w : World) (hl : l.length = len) (hlen : len ≤ 1000000000) (hcap : len ≤ cap) (hat : At w a l) (hps : ps = poss l (len + 1) 0 0) (hS : S = stopP l ps) (hn : n = ps.length) :
    Calls Try.prog 19 #[.slice a len cap, .int .i64 0] w fun e w' => ∃ (xs : List RX) (ra : Option Addr) (rc : Nat), e = .returned (.tuple #[.slice ra n rc, .int .i64 (S : Int)]) ∧ xs.map (·.p) = ps ∧ n ≤ rc ∧ CAt w' ra (xs.flatMap (RX.cells l)) ∧ (∀ ad, ra = some ad → w.heap.size ≤ ad.block ∧ ad.block < w'.heap.size) ∧ (∀ x ∈ xs, RX.ok w.heap.size l x w') ∧ Below w.heap.size w w' := by
  subst hps; subst hS; subst hn
  refine (records_any a len cap l 0 w hl hlen hcap hat).mono ?_
  rintro e w' ⟨xs, v, rfl, hp, ho, hok, hb⟩
  obtain ⟨ra, rc, rfl, hrc⟩ := owns_form ho
  have hxl : xs.length = (poss l (len + 1) 0 0).length := by rw [← hp, List.length_map]
  refine ⟨xs, ra, rc, by rw [stop_map, hp, hxl], hp, by omega, owns_cat ho, fun ad e => ?_, hok, hb⟩
  subst e
  obtain ⟨bk, o, pt⟩ := ad
  exact World.ownsRow.lt ho bk rfl

/-- A row of the records above M. -/
def BehV (l : List UInt8) (M : Nat) (xs : List RX) (n : Nat) (a : Option Addr) (v : Value) (W : World) : Prop :=
  ∃ a' c', v = .slice a' (n - skipOf l M xs) c' ∧ n - skipOf l M xs ≤ c' ∧ CAt W a' ((xs.drop (skipOf l M xs)).flatMap (RX.cells l)) ∧ ∀ ad, a' = some ad → ∃ ad0, a = some ad0 ∧ ad.block = ad0.block
theorem BehV.below {l : List UInt8} {M n : Nat} {xs : List RX} {a : Option Addr} {v : Value} {W W' : World} (h : BehV l M xs n a v W) (hb : Below W.heap.size W W') : BehV l M xs n a v W' := by
  obtain ⟨a', c', h1, h2, h3, h4⟩ := h
  exact ⟨a', c', h1, h2, h3.below hb, h4⟩
theorem behind_v (a : Option Addr) (n cap M : Nat) (l : List UInt8) (xs : List RX) (w : World) (hn : xs.length = n) (hnb : n ≤ 1000000000) (hcap : n ≤ cap) (hat : CAt w a (xs.flatMap (RX.cells l))) :
    Calls Try.prog 45 #[.slice a n cap, .int .i64 (M : Int)] w fun e w' => ∃ v, e = .returned v ∧ BehV l M xs n a v w' ∧ Below w.heap.size w w' := by
  refine (behind_any a n cap M l xs w hn hnb hcap hat).mono ?_
  rintro e w' ⟨a', c', rfl, h1, h2, h3, h4⟩
  exact ⟨_, rfl, ⟨a', c', rfl, h1, h2, h3⟩, h4⟩
theorem JBlk.new (w : World) (p : Nat) (l s f : Int) (b : Bool) : JBlk (w.alloc (.cells #[.pointer (some ⟨p, 0, none⟩), .int .i64 l, .int .i64 s, .int .i64 f, .bool b] 69)) w.heap.size (some ⟨p, 0, none⟩) l s f b := heap_alloc_new w _
theorem RBlk.kp {S : Nat → Prop} {w w' : World} {g : Nat} {x y z : Value} (h : RBlk w g x y z) (hk : Kp S w w') (hn : ¬ S g) : RBlk w' g x y z := by unfold RBlk; rw [hk.block g h.lt hn]; exact h


theorem results_tmp4 {P : Program} {fn : Func} {s t u v : Tmp} (h : fn.results = #[.tmp s, .tmp t, .tmp u, .tmp v]) (tmps : Array Value) (w : World) :
    (results fn tmps).run P w = .ok (.tuple #[tmps.getD s undef, tmps.getD t undef, tmps.getD u undef, tmps.getD v undef]) w := by
  simp [results, h]

/-- What Open leaves where it hands a journal out. -/
structure OpenAt (base : Nat) (w w' : World) (p : Nat) (x x' : Dx) (l body : List UInt8) (d' : Dsk) (M SF BN n Lst gj : Nat) (ps : List Nat) (sa : Option Addr) (sc : Nat) (v : Value) : Prop where
  jr : JIs base w' gj p x' ⟨d', Lst, Lst, SF, false⟩
  fresh : w.heap.size ≤ gj
  own : Own w' w.heap.size (.slice sa BN sc) body
  recs : ∃ (xs : List RX) (a : Option Addr), xs.map (·.p) = ps ∧ BehV l M xs n a v w' ∧ (∀ y ∈ xs, RX.ok w.heap.size l y w') ∧ ∀ ad, a = some ad → w.heap.size ≤ ad.block
  grow : Grow w p x x'
  kp : Kp (Turn p x) w w'

theorem RX.ok.below {n₀ : Nat} {l : List UInt8} {x : RX} {W W' : World} (h : RX.ok n₀ l x W) (hb : Below W.heap.size W W') : RX.ok n₀ l x W' := ⟨h.1, h.2.below hb⟩
theorem RX.ok.kp {S : Nat → Prop} {n₀ : Nat} {l : List UInt8} {x : RX} {W W' : World} (h : RX.ok n₀ l x W) (hk : Kp S W W') (hS : ∀ k, S k → k < n₀) : RX.ok n₀ l x W' := ⟨h.1, h.2.kp hk (fun k e1 e2 => by have := (h.2.lt k e1).1; have := hS k e2; omega)⟩
theorem grow_refl (w : World) (p : Nat) (x : Dx) : Grow w p x x := ⟨fun _ e => .inl e, fun _ e => .inl e⟩
theorem Grow.low {w w1 : World} {p : Nat} {x x' : Dx} (h : Grow w1 p x x') (hz : w.heap.size ≤ w1.heap.size) : Grow w p x x' :=
  ⟨fun k e => (h.1 k e).elim .inl (fun e => .inr (by omega)), fun k e => (h.2 k e).elim .inl (fun e => .inr (by omega))⟩

set_option maxRecDepth 100000 in
set_option maxHeartbeats 8000000 in
theorem open_good_no (base p : Nat) (x : Dx) (d : Dsk) (w : World) (M SF BN N n S P Q : Nat) (body : List UInt8) (hs : Sole base w p x d) (hdn : d.down = false) (hM : M = opNum d) (hS : SF = opFile d) (hb : body = opBody d) (hbn : BN = body.length) (hN : (d.cur 0).length = N) (hps : n = (opPs d).length) (hSS : S = stopP (d.cur 0) (opPs d)) (hn0 : 0 < n) (hn1 : n ≤ 1048577) (hP : ∀ h : 0 < (opPs d).length, P = numAt (d.cur 0) (opPs d)[0]) (hQ : ∀ h : n - 1 < (opPs d).length, Q = numAt (d.cur 0) (opPs d)[n - 1]) (hPM : P ≤ M + 1) (hQM : M ≤ Q) (hSN : ¬ S < N) :
    Calls Try.prog 12 #[.pointer (some ⟨p, 0, none⟩)] w fun e w' => ∃ (gj : Nat) (sa : Option Addr) (sc : Nat) (v : Value) (x' : Dx), e = .returned (.tuple #[.pointer (some ⟨gj, 0, none⟩), .slice sa BN sc, v, .int .i64 0]) ∧ OpenAt base w w' p x x' (d.cur 0) body d M SF BN n Q gj (opPs d) sa sc v := by
  have hso := stateon_flat base p x d M SF BN body w hs hdn hM hS hb hbn
  have E0 : d.readE 0 = 0 := by unfold Dsk.readE; rw [hdn]; rfl
  have L0 : d.readB 0 = d.cur 0 := by unfold Dsk.readB; rw [hdn]; rfl
  have S0 := hs.inv.curShort 0 (by omega)
  have hM2 : M ≤ 4611686018427387904 := by rw [hM]; exact opNum_le d
  have hTl := hs.is.1.turn_lt
  replace hM := hid hM
  replace hS := hid hS
  replace hb := hid hb
  replace hbn := hid hbn
  replace E0 := hid E0
  replace L0 := hid L0
  replace hdn := hid hdn
  replace hN := hid hN
  replace hps := hid hps
  replace hSS := hid hSS
  replace hP := hid hP
  replace hQ := hid hQ
  go_enter Try.func12, Try.ntmps12
  go_wp2_with fail
  refine hso.mono ?_
  rintro e w1 ⟨KV, sa, sc, rfl, so, sb⟩
  have bl1 := below_lit w1 (.cells #[.int .i64 (M : Int), .int .u8 KV, .slice sa BN sc] 27)
  have hX1 := RBlk.new w1 (.int .i64 (M : Int)) (.int .u8 KV) (.slice sa BN sc)
  have hrd := read_sole base p x d 0 0 (d.cur 0) N _ ((hs.below sb).below bl1) E0.out L0.out hN.out
  replace hs := hid hs
  go_wp2_with fail
  refine hrd.mono ?_
  rintro e w2 ⟨la, lc, rfl, lo, lb⟩
  have hcap : N ≤ lc := by obtain ⟨a', c', e, hc, _⟩ := lo.form; injection e with _ e2 e3; have := hN.out; omega
  have hre := records_flat la N lc S n (d.cur 0) (opPs d) w2 hN.out (by have := hN.out; omega) hcap lo.at (by unfold opPs; rw [hN.out]) hSS.out hps.out
  go_wp2_with fail
  refine hre.mono ?_
  rintro e w3 ⟨xs, ra, rc, rfl, hxp, hrc, hcat, hrl, hok, rb⟩
  have hX3 := (hX1.below lb).below rb
  have b3 := bnext (bnext (bnext sb bl1) lb) rb
  have so3 := ((so.below bl1).below lb).below rb
  have hz2 := (bnext (bnext sb bl1) lb).size
  have hxl : xs.length = n := by have := congrArg List.length hxp; rw [List.length_map] at this; have := hps.out; omega
  obtain ⟨b, o, rfl, hc⟩ := rx_form hcat (by intro e; subst e; simp at hxl; omega)
  obtain ⟨c0, _, _⟩ := hc 0 (by omega)
  have e0 : numAt (d.cur 0) (xs[0]'(by omega)).p = P := by rw [hP.out (by have := hps.out; omega)]; congr 1; simp only [← hxp, List.getElem_map]
  rw [e0, Nat.zero_mul, Nat.add_zero] at c0
  clear hc e0
  have m0 := hX3.cell0
  have d1 : decide (((M : Int) + 1) < (P : Int)) = false := decide_eq_false (by omega)
  replace hxl := hid hxl
  replace hxp := hid hxp
  replace hcat := hid hcat
  go_wp2_with fail
  go_quiet (fail)
  have b4 := below_drewN (Below.refl w3.heap.size w3) nq
  have hX4 := hX3.below b4
  have hat4 := hcat.out.below b4
  have b4t := bnext b3 b4
  have so4 := so3.below b4
  have hok4 : ∀ y ∈ xs, RX.ok w.heap.size (d.cur 0) y (w3.drewN nq) := fun y hy => by have h := hok y hy; exact ⟨h.1, (h.2.le hz2).below b4⟩
  replace hok4 := hid hok4
  generalize w3.drewN nq = w4 at *
  clear c0 m0
  obtain ⟨b', o', e9, hc⟩ := rx_form hat4 (by intro e; have := hxl.out; subst e; simp at this; omega)
  cases e9
  obtain ⟨cl, _, _⟩ := hc (n - 1) (by have := hxl.out; omega)
  have el : numAt (d.cur 0) (xs[n - 1]'(by have := hxl.out; omega)).p = Q := by rw [hQ.out (by have := hps.out; omega)]; congr 1; simp only [← hxp.out, List.getElem_map]
  have hQ2 : Q ≤ 4611686018427387904 := by rw [← el]; exact (hok _ (List.getElem_mem _)).1.num
  rw [el] at cl
  clear hc el
  have m0 := hX4.cell0
  have d2 : decide ((Q : Int) < (M : Int)) = false := decide_eq_false (by omega)
  go_wp2_with fail
  go_quiet (fail)
  have b5 := below_drewN (Below.refl w4.heap.size w4) nq
  have hX5 := hX4.below b5
  have hat5 := hat4.below b5
  have b5t := bnext b4t b5
  have so5 := so4.below b5
  have hok5 : ∀ y ∈ xs, RX.ok w.heap.size (d.cur 0) y (w4.drewN nq) := fun y hy => (hok4.out y hy).below b5
  replace hok5 := hid hok5
  have cl5 := World.cell?_of_block (w := w4) (w' := w4.drewN nq) (a := ⟨b, o + (n - 1) * 3, none⟩) (b5.block b (World.block_lt_of_cell? w4 _ cl))
  rw [cl] at cl5
  generalize w4.drewN nq = w5 at *
  clear cl m0 d1 d2
  have m5 := hX5.cell0
  have b7 := below_lit w5 (.cells #[.pointer (some ⟨p, 0, none⟩), .int .i64 (M : Int), .int .i64 0, .int .i64 (SF : Int), .bool false] 69)
  have cl7 : (w5.alloc (.cells #[.pointer (some ⟨p, 0, none⟩), .int .i64 (M : Int), .int .i64 0, .int .i64 (SF : Int), .bool false] 69)).cell? ⟨b, o + (n - 1) * 3, none⟩ = some (.int .i64 (Q : Int)) := by rw [World.cell?_of_block (w := w5) (w' := w5.alloc (.cells #[.pointer (some ⟨p, 0, none⟩), .int .i64 (M : Int), .int .i64 0, .int .i64 (SF : Int), .bool false] 69)) (a := ⟨b, o + (n - 1) * 3, none⟩) (b7.block b (World.block_lt_of_cell? w5 _ cl5))]; exact cl5
  clear b7
  have b8 := below_lit w5 (.cells #[.pointer (some ⟨p, 0, none⟩), .int .i64 (Q : Int), .int .i64 (Q : Int), .int .i64 (SF : Int), .bool false] 69)
  have hB8 := JBlk.new w5 p Q Q SF false
  have hX8 := hX5.below b8
  have so8 := so5.below b8
  have hat8 := hat5.below b8
  have hok8 : ∀ y ∈ xs, RX.ok w.heap.size (d.cur 0) y (w5.alloc (.cells #[.pointer (some ⟨p, 0, none⟩), .int .i64 (Q : Int), .int .i64 (Q : Int), .int .i64 (SF : Int), .bool false] 69)) := fun y hy => (hok5.out y hy).below b8
  have hsj : Sole base w5 p x d := (hs.out.below b5t)
  have hTj := hsj.is.1.turn_lt
  have hRj := hsj.is.1.reads_lt
  have hJ8 : JIs base (w5.alloc (.cells #[.pointer (some ⟨p, 0, none⟩), .int .i64 (Q : Int), .int .i64 (Q : Int), .int .i64 (SF : Int), .bool false] 69)) w5.heap.size p x ⟨d, Q, Q, SF, false⟩ := ⟨hB8, hsj.below b8, hQ2, fun e => by have := hTj _ e; omega, fun e => by have := hRj _ e; omega⟩
  have hk8 : Kp (Turn p x) w (w5.alloc (.cells #[.pointer (some ⟨p, 0, none⟩), .int .i64 (Q : Int), .int .i64 (Q : Int), .int .i64 (SF : Int), .bool false] 69)) := (Kp.of_below b5t).then b8
  have hfr : w.heap.size ≤ w5.heap.size := b5t.size
  replace b8 := hid b8
  replace hX8 := hid hX8
  replace hat8 := hid hat8
  replace hB8 := hid hB8
  replace hJ8 := hid hJ8
  replace hk8 := hid hk8
  replace so8 := hid so8
  replace hok8 := hid hok8
  go_wp2_with fail
  clear cl7
  obtain ⟨gj, hgj⟩ : ∃ gj, gj = w5.heap.size := ⟨_, rfl⟩
  obtain ⟨gx, hgx⟩ : ∃ gx, gx = w1.heap.size := ⟨_, rfl⟩
  rw [← hgj] at hJ8 hfr
  rw [← hgx] at hX8
  generalize hw8 : w5.alloc (.cells #[.pointer (some ⟨p, 0, none⟩), .int .i64 (Q : Int), .int .i64 (Q : Int), .int .i64 (SF : Int), .bool false] 69) = w8 at *
  rw [← hgj, ← hgx]
  replace hgj := hid hgj
  replace hgx := hid hgx
  replace hw8 := hid hw8
  refine wp_region_drawn (Rel := fun w w' => Below w.heap.size w w') (Pr := fun k v W => if k = 6 ∨ k = 9 then BehV (d.cur 0) M xs n (some ⟨b, o, none⟩) v W else v = ([.pointer (some ⟨gj, 0, none⟩), .pointer (some ⟨gx, 2, none⟩), .slice sa BN sc, .slice (some ⟨b, o, none⟩) n rc, .pointer (some ⟨gx, 0, none⟩), .int .i64 (M : Int), undef, .pointer (some ⟨gj, 0, none⟩), .slice sa BN sc, undef, .int .i64 0] : List Value).getD k undef) (by kernel_rfl) (by kernel_rfl) (drew_below _) bel_tr (fun k v W W' h hb => by by_cases hk : k = 6 ∨ k = 9 <;> simp only [hk, if_true, if_false] at h ⊢; exact h.below hb; exact h) ?_ ?_
  · refine ⟨?_, ?_, ?_, ?_, ?_, ?_, ?_, ?_, ?_, ?_, ?_, trivial⟩
    · exact fun a w hR hd hk K hK => yes (want_n rfl) (wp_mv _ rfl _ (get_keep (hk 14 (no_dst (by kernel_rfl))) rfl) (hK _ w rfl (Below.refl _ _)))
    · exact fun a w hR hd hk K hK => yes (want_n rfl) (wp_fld27_2 6 gx (get_keep (hk 6 (no_dst (by kernel_rfl))) rfl) (hK _ w rfl (Below.refl _ _)))
    · exact fun a w hR hd hk K hK => yes (want_n rfl) (wp_ld22 103 ⟨gx, 2, none⟩ sa BN sc (hd 1 _ 103 rfl rfl rfl) (hX8.out.below hR).cell2 (hK _ w rfl (Below.refl _ _)))
    · exact fun a w hR hd hk K hK => yes (want_n rfl) (wp_mv _ rfl _ (get_keep (hk 10 (no_dst (by kernel_rfl))) rfl) (hK _ w rfl (Below.refl _ _)))
    · exact fun a w hR hd hk K hK => yes (want_n rfl) (wp_fld27_0 6 gx (get_keep (hk 6 (no_dst (by kernel_rfl))) rfl) (hK _ w rfl (Below.refl _ _)))
    · exact fun a w hR hd hk K hK => yes (want_n rfl) (wp_ld3 106 ⟨gx, 0, none⟩ M (hd 4 _ 106 rfl rfl rfl) (hX8.out.below hR).cell0 (hK _ w rfl (Below.refl _ _)))
    · exact fun a w hR hd hk K hK => yes (want_n rfl) (wp_callv 45 _ _ rfl _ Try.func45 rfl rfl _ (args2 (hd 3 _ 105 rfl rfl rfl) (hd 5 _ 107 rfl rfl rfl)) (behind_v (some ⟨b, o, none⟩) n rc M (d.cur 0) xs w hxl.out (by omega) hrc (hat8.out.below hR)) (by rintro e w' ⟨v, rfl, hv, hb⟩; exact ⟨_, rfl, hK _ w' hv hb⟩))
    · exact fun a w hR hd hk K hK => yes (want_n rfl) (wp_as _ rfl _ (hd 0 _ 102 rfl rfl rfl) (hK _ w rfl (Below.refl _ _)))
    · exact fun a w hR hd hk K hK => yes (want_n rfl) (wp_as _ rfl _ (hd 2 _ 104 rfl rfl rfl) (hK _ w rfl (Below.refl _ _)))
    · exact fun a w hR hd hk K hK => yes (want_n rfl) (wp_as _ rfl _ rfl (hK _ w (hd 6 _ 108 rfl rfl rfl) (Below.refl _ _)))
    · exact fun a w hR hd hk K hK => yes (want_n rfl) (wp_as _ rfl _ rfl (hK _ w rfl (Below.refl _ _)))
  · intro a w9 hdf hsz hkp hval hRw
    obtain ⟨f, hf⟩ : ∃ f, f = fun d => a.tmps.getD d undef := ⟨_, rfl⟩
    have h2 : f 2 = .pointer (some ⟨gj, 0, none⟩) := by rw [hf]; exact hval 7 _ 2 rfl rfl
    have h3 : f 3 = .slice sa BN sc := by rw [hf]; exact hval 8 _ 3 rfl rfl
    have h4 : BehV (d.cur 0) M xs n (some ⟨b, o, none⟩) (f 4) w9 := by rw [hf]; exact hval 9 _ 4 rfl rfl
    have h5 : f 5 = .int .i64 0 := by rw [hf]; exact hval 10 _ 5 rfl rfl
    have hfa := act_filled hdf hsz hkp
    rw [← hf] at hfa
    rw [hfa]
    clear hdf hsz hkp hval hfa hf
    clear a
    simp only [fillAll, List.set_cons_zero, List.set_cons_succ, h2, h3, h5]
    clear h2 h3 h5
    replace h4 := hid h4
    go_wp2
    (try simp only [Exit.inBlock, Exit.then])
    refine bodyPost_ret (results_tmp4 rfl _ _) rfl ?_
    refine ⟨gj, sa, sc, f 4, x, rfl, hJ8.out.below hRw, hfr, (so8.out.below hRw).le (Nat.le_refl _), ⟨xs, (some ⟨b, o, none⟩), ?_, h4.out, ?_, ?_⟩, grow_refl _ _ _, hk8.out.then hRw⟩
    · exact hxp.out
    · exact fun y hy => (hok8.out y hy).below hRw
    · exact fun ad e => by cases e; have h1 := (hrl _ rfl).1; simp only at h1 ⊢; omega

set_option maxRecDepth 100000 in
set_option maxHeartbeats 8000000 in
theorem open_good_ok (base p : Nat) (x : Dx) (d : Dsk) (w : World) (M SF BN N n S P Q : Nat) (body : List UInt8) (D : Dsk) (hs : Sole base w p x d) (hbase : base ≤ w.heap.size) (hops : d.ops.length + 1 ≤ 1000000) (hdn : d.down = false) (hM : M = opNum d) (hS : SF = opFile d) (hb : body = opBody d) (hbn : BN = body.length) (hN : (d.cur 0).length = N) (hps : n = (opPs d).length) (hSS : S = stopP (d.cur 0) (opPs d)) (hn0 : 0 < n) (hn1 : n ≤ 1048577) (hP : ∀ h : 0 < (opPs d).length, P = numAt (d.cur 0) (opPs d)[0]) (hQ : ∀ h : n - 1 < (opPs d).length, Q = numAt (d.cur 0) (opPs d)[n - 1]) (hPM : P ≤ M + 1) (hQM : M ≤ Q) (hSN : S < N) (hcD : d.csD (S : Nat) = D) (hcE : d.csE (S : Nat) = 0) :
    Calls Try.prog 12 #[.pointer (some ⟨p, 0, none⟩)] w fun e w' => ∃ (gj : Nat) (sa : Option Addr) (sc : Nat) (v : Value) (x' : Dx), e = .returned (.tuple #[.pointer (some ⟨gj, 0, none⟩), .slice sa BN sc, v, .int .i64 0]) ∧ OpenAt base w w' p x x' (d.cur 0) body D M SF BN n Q gj (opPs d) sa sc v := by
  have hso := stateon_flat base p x d M SF BN body w hs hdn hM hS hb hbn
  have E0 : d.readE 0 = 0 := by unfold Dsk.readE; rw [hdn]; rfl
  have L0 : d.readB 0 = d.cur 0 := by unfold Dsk.readB; rw [hdn]; rfl
  have S0 := hs.inv.curShort 0 (by omega)
  have hM2 : M ≤ 4611686018427387904 := by rw [hM]; exact opNum_le d
  have hTl := hs.is.1.turn_lt
  replace hM := hid hM
  replace hS := hid hS
  replace hb := hid hb
  replace hbn := hid hbn
  replace E0 := hid E0
  replace L0 := hid L0
  replace hdn := hid hdn
  replace hN := hid hN
  replace hps := hid hps
  replace hSS := hid hSS
  replace hP := hid hP
  replace hQ := hid hQ
  replace hcD := hid hcD
  replace hcE := hid hcE
  go_enter Try.func12, Try.ntmps12
  go_wp2_with fail
  refine hso.mono ?_
  rintro e w1 ⟨KV, sa, sc, rfl, so, sb⟩
  have bl1 := below_lit w1 (.cells #[.int .i64 (M : Int), .int .u8 KV, .slice sa BN sc] 27)
  have hX1 := RBlk.new w1 (.int .i64 (M : Int)) (.int .u8 KV) (.slice sa BN sc)
  have hrd := read_sole base p x d 0 0 (d.cur 0) N _ ((hs.below sb).below bl1) E0.out L0.out hN.out
  replace hs := hid hs
  go_wp2_with fail
  refine hrd.mono ?_
  rintro e w2 ⟨la, lc, rfl, lo, lb⟩
  have hcap : N ≤ lc := by obtain ⟨a', c', e, hc, _⟩ := lo.form; injection e with _ e2 e3; have := hN.out; omega
  have hre := records_flat la N lc S n (d.cur 0) (opPs d) w2 hN.out (by have := hN.out; omega) hcap lo.at (by unfold opPs; rw [hN.out]) hSS.out hps.out
  go_wp2_with fail
  refine hre.mono ?_
  rintro e w3 ⟨xs, ra, rc, rfl, hxp, hrc, hcat, hrl, hok, rb⟩
  have hX3 := (hX1.below lb).below rb
  have b3 := bnext (bnext (bnext sb bl1) lb) rb
  have so3 := ((so.below bl1).below lb).below rb
  have hz2 := (bnext (bnext sb bl1) lb).size
  have hxl : xs.length = n := by have := congrArg List.length hxp; rw [List.length_map] at this; have := hps.out; omega
  obtain ⟨b, o, rfl, hc⟩ := rx_form hcat (by intro e; subst e; simp at hxl; omega)
  obtain ⟨c0, _, _⟩ := hc 0 (by omega)
  have e0 : numAt (d.cur 0) (xs[0]'(by omega)).p = P := by rw [hP.out (by have := hps.out; omega)]; congr 1; simp only [← hxp, List.getElem_map]
  rw [e0, Nat.zero_mul, Nat.add_zero] at c0
  clear hc e0
  have m0 := hX3.cell0
  have d1 : decide (((M : Int) + 1) < (P : Int)) = false := decide_eq_false (by omega)
  replace hxl := hid hxl
  replace hxp := hid hxp
  replace hcat := hid hcat
  go_wp2_with fail
  go_quiet (fail)
  have b4 := below_drewN (Below.refl w3.heap.size w3) nq
  have hX4 := hX3.below b4
  have hat4 := hcat.out.below b4
  have b4t := bnext b3 b4
  have so4 := so3.below b4
  have hok4 : ∀ y ∈ xs, RX.ok w.heap.size (d.cur 0) y (w3.drewN nq) := fun y hy => by have h := hok y hy; exact ⟨h.1, (h.2.le hz2).below b4⟩
  replace hok4 := hid hok4
  generalize w3.drewN nq = w4 at *
  clear c0 m0
  obtain ⟨b', o', e9, hc⟩ := rx_form hat4 (by intro e; have := hxl.out; subst e; simp at this; omega)
  cases e9
  obtain ⟨cl, _, _⟩ := hc (n - 1) (by have := hxl.out; omega)
  have el : numAt (d.cur 0) (xs[n - 1]'(by have := hxl.out; omega)).p = Q := by rw [hQ.out (by have := hps.out; omega)]; congr 1; simp only [← hxp.out, List.getElem_map]
  have hQ2 : Q ≤ 4611686018427387904 := by rw [← el]; exact (hok _ (List.getElem_mem _)).1.num
  rw [el] at cl
  clear hc el
  have m0 := hX4.cell0
  have d2 : decide ((Q : Int) < (M : Int)) = false := decide_eq_false (by omega)
  go_wp2_with fail
  go_quiet (fail)
  have b5 := below_drewN (Below.refl w4.heap.size w4) nq
  have hX5 := hX4.below b5
  have hat5 := hat4.below b5
  have b5t := bnext b4t b5
  have so5 := so4.below b5
  have hok5 : ∀ y ∈ xs, RX.ok w.heap.size (d.cur 0) y (w4.drewN nq) := fun y hy => (hok4.out y hy).below b5
  replace hok5 := hid hok5
  have cl5 := World.cell?_of_block (w := w4) (w' := w4.drewN nq) (a := ⟨b, o + (n - 1) * 3, none⟩) (b5.block b (World.block_lt_of_cell? w4 _ cl))
  rw [cl] at cl5
  generalize w4.drewN nq = w5 at *
  clear cl m0 d1 d2
  have hcs := cutsync_sole base p x d D (S : Nat) 0 w5 (hs.out.below b5t) (Nat.le_trans hbase b5t.size) hops hcE.out hcD.out
  go_wp2_with fail
  refine hcs.mono ?_
  rintro e w6 ⟨rfl, x6, s6, g6, k6⟩
  have hk6 : Kp (Turn p x) w w6 := (Kp.of_below b5t).trans k6
  have hg6 : Grow w p x x6 := g6.low b5t.size
  have hX6 := hX5.kp k6 (fun e => by have := hTl _ e; have := sb.size; omega)
  have hat6 := hat5.kp k6 (fun ad e et => by cases e; have h1 := (hrl _ rfl).1; have h2 := hTl _ et; simp only at h1 h2; omega)
  have cl6 := World.cell?_of_block (w := w5) (w' := w6) (a := ⟨b, o + (n - 1) * 3, none⟩) (k6.block b (World.block_lt_of_cell? w5 _ cl5) (fun et => by have h1 := (hrl _ rfl).1; have h2 := hTl _ et; simp only at h1; omega))
  rw [cl5] at cl6
  have so6 := so5.kp k6 (fun k e1 e2 => by have := (so5.lt k e1).1; have := hTl k e2; omega)
  have hok6 : ∀ y ∈ xs, RX.ok w.heap.size (d.cur 0) y w6 := fun y hy => (hok5.out y hy).kp k6 hTl
  replace hok6 := hid hok6
  have m5 := hX6.cell0
  have b7 := below_lit w6 (.cells #[.pointer (some ⟨p, 0, none⟩), .int .i64 (M : Int), .int .i64 0, .int .i64 (SF : Int), .bool false] 69)
  have cl7 : (w6.alloc (.cells #[.pointer (some ⟨p, 0, none⟩), .int .i64 (M : Int), .int .i64 0, .int .i64 (SF : Int), .bool false] 69)).cell? ⟨b, o + (n - 1) * 3, none⟩ = some (.int .i64 (Q : Int)) := by rw [World.cell?_of_block (w := w6) (w' := w6.alloc (.cells #[.pointer (some ⟨p, 0, none⟩), .int .i64 (M : Int), .int .i64 0, .int .i64 (SF : Int), .bool false] 69)) (a := ⟨b, o + (n - 1) * 3, none⟩) (b7.block b (World.block_lt_of_cell? w6 _ cl6))]; exact cl6
  clear b7
  have b8 := below_lit w6 (.cells #[.pointer (some ⟨p, 0, none⟩), .int .i64 (Q : Int), .int .i64 (Q : Int), .int .i64 (SF : Int), .bool false] 69)
  have hB8 := JBlk.new w6 p Q Q SF false
  have hX8 := hX6.below b8
  have so8 := so6.below b8
  have hat8 := hat6.below b8
  have hok8 : ∀ y ∈ xs, RX.ok w.heap.size (d.cur 0) y (w6.alloc (.cells #[.pointer (some ⟨p, 0, none⟩), .int .i64 (Q : Int), .int .i64 (Q : Int), .int .i64 (SF : Int), .bool false] 69)) := fun y hy => (hok6.out y hy).below b8
  have hsj : Sole base w6 p x6 D := s6
  have hTj := hsj.is.1.turn_lt
  have hRj := hsj.is.1.reads_lt
  have hJ8 : JIs base (w6.alloc (.cells #[.pointer (some ⟨p, 0, none⟩), .int .i64 (Q : Int), .int .i64 (Q : Int), .int .i64 (SF : Int), .bool false] 69)) w6.heap.size p x6 ⟨D, Q, Q, SF, false⟩ := ⟨hB8, hsj.below b8, hQ2, fun e => by have := hTj _ e; omega, fun e => by have := hRj _ e; omega⟩
  have hk8 : Kp (Turn p x) w (w6.alloc (.cells #[.pointer (some ⟨p, 0, none⟩), .int .i64 (Q : Int), .int .i64 (Q : Int), .int .i64 (SF : Int), .bool false] 69)) := hk6.then b8
  have hfr : w.heap.size ≤ w6.heap.size := hk6.size
  replace b8 := hid b8
  replace hX8 := hid hX8
  replace hat8 := hid hat8
  replace hB8 := hid hB8
  replace hJ8 := hid hJ8
  replace hk8 := hid hk8
  replace so8 := hid so8
  replace hok8 := hid hok8
  go_wp2_with fail
  clear cl7
  obtain ⟨gj, hgj⟩ : ∃ gj, gj = w6.heap.size := ⟨_, rfl⟩
  obtain ⟨gx, hgx⟩ : ∃ gx, gx = w1.heap.size := ⟨_, rfl⟩
  rw [← hgj] at hJ8 hfr
  rw [← hgx] at hX8
  generalize hw8 : w6.alloc (.cells #[.pointer (some ⟨p, 0, none⟩), .int .i64 (Q : Int), .int .i64 (Q : Int), .int .i64 (SF : Int), .bool false] 69) = w8 at *
  rw [← hgj, ← hgx]
  replace hgj := hid hgj
  replace hgx := hid hgx
  replace hw8 := hid hw8
  refine wp_region_drawn (Rel := fun w w' => Below w.heap.size w w') (Pr := fun k v W => if k = 6 ∨ k = 9 then BehV (d.cur 0) M xs n (some ⟨b, o, none⟩) v W else v = ([.pointer (some ⟨gj, 0, none⟩), .pointer (some ⟨gx, 2, none⟩), .slice sa BN sc, .slice (some ⟨b, o, none⟩) n rc, .pointer (some ⟨gx, 0, none⟩), .int .i64 (M : Int), undef, .pointer (some ⟨gj, 0, none⟩), .slice sa BN sc, undef, .int .i64 0] : List Value).getD k undef) (by kernel_rfl) (by kernel_rfl) (drew_below _) bel_tr (fun k v W W' h hb => by by_cases hk : k = 6 ∨ k = 9 <;> simp only [hk, if_true, if_false] at h ⊢; exact h.below hb; exact h) ?_ ?_
  · refine ⟨?_, ?_, ?_, ?_, ?_, ?_, ?_, ?_, ?_, ?_, ?_, trivial⟩
    · exact fun a w hR hd hk K hK => yes (want_n rfl) (wp_mv _ rfl _ (get_keep (hk 14 (no_dst (by kernel_rfl))) rfl) (hK _ w rfl (Below.refl _ _)))
    · exact fun a w hR hd hk K hK => yes (want_n rfl) (wp_fld27_2 6 gx (get_keep (hk 6 (no_dst (by kernel_rfl))) rfl) (hK _ w rfl (Below.refl _ _)))
    · exact fun a w hR hd hk K hK => yes (want_n rfl) (wp_ld22 103 ⟨gx, 2, none⟩ sa BN sc (hd 1 _ 103 rfl rfl rfl) (hX8.out.below hR).cell2 (hK _ w rfl (Below.refl _ _)))
    · exact fun a w hR hd hk K hK => yes (want_n rfl) (wp_mv _ rfl _ (get_keep (hk 10 (no_dst (by kernel_rfl))) rfl) (hK _ w rfl (Below.refl _ _)))
    · exact fun a w hR hd hk K hK => yes (want_n rfl) (wp_fld27_0 6 gx (get_keep (hk 6 (no_dst (by kernel_rfl))) rfl) (hK _ w rfl (Below.refl _ _)))
    · exact fun a w hR hd hk K hK => yes (want_n rfl) (wp_ld3 106 ⟨gx, 0, none⟩ M (hd 4 _ 106 rfl rfl rfl) (hX8.out.below hR).cell0 (hK _ w rfl (Below.refl _ _)))
    · exact fun a w hR hd hk K hK => yes (want_n rfl) (wp_callv 45 _ _ rfl _ Try.func45 rfl rfl _ (args2 (hd 3 _ 105 rfl rfl rfl) (hd 5 _ 107 rfl rfl rfl)) (behind_v (some ⟨b, o, none⟩) n rc M (d.cur 0) xs w hxl.out (by omega) hrc (hat8.out.below hR)) (by rintro e w' ⟨v, rfl, hv, hb⟩; exact ⟨_, rfl, hK _ w' hv hb⟩))
    · exact fun a w hR hd hk K hK => yes (want_n rfl) (wp_as _ rfl _ (hd 0 _ 102 rfl rfl rfl) (hK _ w rfl (Below.refl _ _)))
    · exact fun a w hR hd hk K hK => yes (want_n rfl) (wp_as _ rfl _ (hd 2 _ 104 rfl rfl rfl) (hK _ w rfl (Below.refl _ _)))
    · exact fun a w hR hd hk K hK => yes (want_n rfl) (wp_as _ rfl _ rfl (hK _ w (hd 6 _ 108 rfl rfl rfl) (Below.refl _ _)))
    · exact fun a w hR hd hk K hK => yes (want_n rfl) (wp_as _ rfl _ rfl (hK _ w rfl (Below.refl _ _)))
  · intro a w9 hdf hsz hkp hval hRw
    obtain ⟨f, hf⟩ : ∃ f, f = fun d => a.tmps.getD d undef := ⟨_, rfl⟩
    have h2 : f 2 = .pointer (some ⟨gj, 0, none⟩) := by rw [hf]; exact hval 7 _ 2 rfl rfl
    have h3 : f 3 = .slice sa BN sc := by rw [hf]; exact hval 8 _ 3 rfl rfl
    have h4 : BehV (d.cur 0) M xs n (some ⟨b, o, none⟩) (f 4) w9 := by rw [hf]; exact hval 9 _ 4 rfl rfl
    have h5 : f 5 = .int .i64 0 := by rw [hf]; exact hval 10 _ 5 rfl rfl
    have hfa := act_filled hdf hsz hkp
    rw [← hf] at hfa
    rw [hfa]
    clear hdf hsz hkp hval hfa hf
    clear a
    simp only [fillAll, List.set_cons_zero, List.set_cons_succ, h2, h3, h5]
    clear h2 h3 h5
    replace h4 := hid h4
    go_wp2
    (try simp only [Exit.inBlock, Exit.then])
    refine bodyPost_ret (results_tmp4 rfl _ _) rfl ?_
    refine ⟨gj, sa, sc, f 4, x6, rfl, hJ8.out.below hRw, hfr, (so8.out.below hRw).le (Nat.le_refl _), ⟨xs, (some ⟨b, o, none⟩), ?_, h4.out, ?_, ?_⟩, hg6, hk8.out.then hRw⟩
    · exact hxp.out
    · exact fun y hy => (hok8.out y hy).below hRw
    · exact fun ad e => by cases e; have h1 := (hrl _ rfl).1; simp only at h1 ⊢; omega

set_option maxRecDepth 100000 in
set_option maxHeartbeats 8000000 in
theorem open_good_err (base p : Nat) (x : Dx) (d : Dsk) (w : World) (M SF BN N n S P Q : Nat) (body : List UInt8) (D : Dsk) (E : Int) (hs : Sole base w p x d) (hbase : base ≤ w.heap.size) (hops : d.ops.length + 1 ≤ 1000000) (hdn : d.down = false) (hM : M = opNum d) (hS : SF = opFile d) (hb : body = opBody d) (hbn : BN = body.length) (hN : (d.cur 0).length = N) (hps : n = (opPs d).length) (hSS : S = stopP (d.cur 0) (opPs d)) (hn0 : 0 < n) (hn1 : n ≤ 1048577) (hP : ∀ h : 0 < (opPs d).length, P = numAt (d.cur 0) (opPs d)[0]) (hQ : ∀ h : n - 1 < (opPs d).length, Q = numAt (d.cur 0) (opPs d)[n - 1]) (hPM : P ≤ M + 1) (hQM : M ≤ Q) (hSN : S < N) (hcD : d.csD (S : Nat) = D) (hcE : d.csE (S : Nat) = E) (hE0 : E ≠ 0) :
    Calls Try.prog 12 #[.pointer (some ⟨p, 0, none⟩)] w fun e w' => e = .returned (.tuple #[.pointer none, .slice none 0 0, .slice none 0 0, .int .i64 E]) ∧ ∃ x', Sole base w' p x' D ∧ Grow w p x x' ∧ Kp (Turn p x) w w' := by
  have hso := stateon_flat base p x d M SF BN body w hs hdn hM hS hb hbn
  have E0 : d.readE 0 = 0 := by unfold Dsk.readE; rw [hdn]; rfl
  have L0 : d.readB 0 = d.cur 0 := by unfold Dsk.readB; rw [hdn]; rfl
  have S0 := hs.inv.curShort 0 (by omega)
  have hM2 : M ≤ 4611686018427387904 := by rw [hM]; exact opNum_le d
  have hTl := hs.is.1.turn_lt
  replace hM := hid hM
  replace hS := hid hS
  replace hb := hid hb
  replace hbn := hid hbn
  replace E0 := hid E0
  replace L0 := hid L0
  replace hdn := hid hdn
  replace hN := hid hN
  replace hps := hid hps
  replace hSS := hid hSS
  replace hP := hid hP
  replace hQ := hid hQ
  replace hcD := hid hcD
  replace hcE := hid hcE
  go_enter Try.func12, Try.ntmps12
  go_wp2_with fail
  refine hso.mono ?_
  rintro e w1 ⟨KV, sa, sc, rfl, so, sb⟩
  have bl1 := below_lit w1 (.cells #[.int .i64 (M : Int), .int .u8 KV, .slice sa BN sc] 27)
  have hX1 := RBlk.new w1 (.int .i64 (M : Int)) (.int .u8 KV) (.slice sa BN sc)
  have hrd := read_sole base p x d 0 0 (d.cur 0) N _ ((hs.below sb).below bl1) E0.out L0.out hN.out
  replace hs := hid hs
  go_wp2_with fail
  refine hrd.mono ?_
  rintro e w2 ⟨la, lc, rfl, lo, lb⟩
  have hcap : N ≤ lc := by obtain ⟨a', c', e, hc, _⟩ := lo.form; injection e with _ e2 e3; have := hN.out; omega
  have hre := records_flat la N lc S n (d.cur 0) (opPs d) w2 hN.out (by have := hN.out; omega) hcap lo.at (by unfold opPs; rw [hN.out]) hSS.out hps.out
  go_wp2_with fail
  refine hre.mono ?_
  rintro e w3 ⟨xs, ra, rc, rfl, hxp, hrc, hcat, hrl, hok, rb⟩
  have hX3 := (hX1.below lb).below rb
  have b3 := bnext (bnext (bnext sb bl1) lb) rb
  have so3 := ((so.below bl1).below lb).below rb
  have hz2 := (bnext (bnext sb bl1) lb).size
  have hxl : xs.length = n := by have := congrArg List.length hxp; rw [List.length_map] at this; have := hps.out; omega
  obtain ⟨b, o, rfl, hc⟩ := rx_form hcat (by intro e; subst e; simp at hxl; omega)
  obtain ⟨c0, _, _⟩ := hc 0 (by omega)
  have e0 : numAt (d.cur 0) (xs[0]'(by omega)).p = P := by rw [hP.out (by have := hps.out; omega)]; congr 1; simp only [← hxp, List.getElem_map]
  rw [e0, Nat.zero_mul, Nat.add_zero] at c0
  clear hc e0
  have m0 := hX3.cell0
  have d1 : decide (((M : Int) + 1) < (P : Int)) = false := decide_eq_false (by omega)
  replace hxl := hid hxl
  replace hxp := hid hxp
  replace hcat := hid hcat
  go_wp2_with fail
  go_quiet (fail)
  have b4 := below_drewN (Below.refl w3.heap.size w3) nq
  have hX4 := hX3.below b4
  have hat4 := hcat.out.below b4
  have b4t := bnext b3 b4
  have so4 := so3.below b4
  have hok4 : ∀ y ∈ xs, RX.ok w.heap.size (d.cur 0) y (w3.drewN nq) := fun y hy => by have h := hok y hy; exact ⟨h.1, (h.2.le hz2).below b4⟩
  replace hok4 := hid hok4
  generalize w3.drewN nq = w4 at *
  clear c0 m0
  obtain ⟨b', o', e9, hc⟩ := rx_form hat4 (by intro e; have := hxl.out; subst e; simp at this; omega)
  cases e9
  obtain ⟨cl, _, _⟩ := hc (n - 1) (by have := hxl.out; omega)
  have el : numAt (d.cur 0) (xs[n - 1]'(by have := hxl.out; omega)).p = Q := by rw [hQ.out (by have := hps.out; omega)]; congr 1; simp only [← hxp.out, List.getElem_map]
  have hQ2 : Q ≤ 4611686018427387904 := by rw [← el]; exact (hok _ (List.getElem_mem _)).1.num
  rw [el] at cl
  clear hc el
  have m0 := hX4.cell0
  have d2 : decide ((Q : Int) < (M : Int)) = false := decide_eq_false (by omega)
  go_wp2_with fail
  go_quiet (fail)
  have b5 := below_drewN (Below.refl w4.heap.size w4) nq
  have hX5 := hX4.below b5
  have hat5 := hat4.below b5
  have b5t := bnext b4t b5
  have so5 := so4.below b5
  have hok5 : ∀ y ∈ xs, RX.ok w.heap.size (d.cur 0) y (w4.drewN nq) := fun y hy => (hok4.out y hy).below b5
  replace hok5 := hid hok5
  have cl5 := World.cell?_of_block (w := w4) (w' := w4.drewN nq) (a := ⟨b, o + (n - 1) * 3, none⟩) (b5.block b (World.block_lt_of_cell? w4 _ cl))
  rw [cl] at cl5
  generalize w4.drewN nq = w5 at *
  clear cl m0 d1 d2
  have hcs := cutsync_sole base p x d D (S : Nat) E w5 (hs.out.below b5t) (Nat.le_trans hbase b5t.size) hops hcE.out hcD.out
  have e1 : (E != 0) = true := by simpa using hE0
  go_wp2_with fail
  refine hcs.mono ?_
  rintro e w6 ⟨rfl, x6, s6, g6, k6⟩
  have hk6 : Kp (Turn p x) w w6 := (Kp.of_below b5t).trans k6
  have hg6 : Grow w p x x6 := g6.low b5t.size
  go_wp2
  (try simp only [Exit.inBlock, Exit.then])
  refine bodyPost_ret (results_tmp4 rfl _ _) rfl ?_
  exact ⟨rfl, x6, s6, hg6, hk6⟩

set_option maxRecDepth 100000 in
set_option maxHeartbeats 8000000 in
theorem open_empty_no (base p : Nat) (x : Dx) (d : Dsk) (w : World) (M SF BN N  : Nat) (body : List UInt8) (hs : Sole base w p x d) (hdn : d.down = false) (hM : M = opNum d) (hS : SF = opFile d) (hb : body = opBody d) (hbn : BN = body.length) (hN : (d.cur 0).length = N) (hps : opPs d = []) (hSN : ¬ 0 < N) :
    Calls Try.prog 12 #[.pointer (some ⟨p, 0, none⟩)] w fun e w' => ∃ (gj : Nat) (sa : Option Addr) (sc : Nat) (v : Value) (x' : Dx), e = .returned (.tuple #[.pointer (some ⟨gj, 0, none⟩), .slice sa BN sc, v, .int .i64 0]) ∧ OpenAt base w w' p x x' (d.cur 0) body d M SF BN 0 M gj [] sa sc v := by
  have hso := stateon_flat base p x d M SF BN body w hs hdn hM hS hb hbn
  have E0 : d.readE 0 = 0 := by unfold Dsk.readE; rw [hdn]; rfl
  have L0 : d.readB 0 = d.cur 0 := by unfold Dsk.readB; rw [hdn]; rfl
  have S0 := hs.inv.curShort 0 (by omega)
  have hM2 : M ≤ 4611686018427387904 := by rw [hM]; exact opNum_le d
  have hTl := hs.is.1.turn_lt
  replace hM := hid hM
  replace hS := hid hS
  replace hb := hid hb
  replace hbn := hid hbn
  replace E0 := hid E0
  replace L0 := hid L0
  replace hdn := hid hdn
  replace hN := hid hN
  replace hps := hid hps
  go_enter Try.func12, Try.ntmps12
  go_wp2_with fail
  refine hso.mono ?_
  rintro e w1 ⟨KV, sa, sc, rfl, so, sb⟩
  have bl1 := below_lit w1 (.cells #[.int .i64 (M : Int), .int .u8 KV, .slice sa BN sc] 27)
  have hX1 := RBlk.new w1 (.int .i64 (M : Int)) (.int .u8 KV) (.slice sa BN sc)
  have hrd := read_sole base p x d 0 0 (d.cur 0) N _ ((hs.below sb).below bl1) E0.out L0.out hN.out
  replace hs := hid hs
  go_wp2_with fail
  refine hrd.mono ?_
  rintro e w2 ⟨la, lc, rfl, lo, lb⟩
  have hcap : N ≤ lc := by obtain ⟨a', c', e, hc, _⟩ := lo.form; injection e with _ e2 e3; have := hN.out; omega
  have hre := records_flat la N lc 0 0 (d.cur 0) [] w2 hN.out (by have := hN.out; omega) hcap lo.at (by have := hps.out; unfold opPs at this; rw [hN.out] at this; exact this.symm) rfl rfl
  go_wp2_with fail
  refine hre.mono ?_
  rintro e w3 ⟨xs, ra, rc, rfl, hxp, hrc, hcat, hrl, hok, rb⟩
  have hX3 := (hX1.below lb).below rb
  have b3 := bnext (bnext (bnext sb bl1) lb) rb
  have so3 := ((so.below bl1).below lb).below rb
  have hz2 := (bnext (bnext sb bl1) lb).size
  replace hxp := hid hxp
  replace hcat := hid hcat
  go_wp2_with fail
  go_quiet (fail)
  have b4 := below_drewN (Below.refl w3.heap.size w3) nq
  have hX4 := hX3.below b4
  have hat4 := hcat.out.below b4
  have b4t := bnext b3 b4
  have so4 := so3.below b4
  have hok4 : ∀ y ∈ xs, RX.ok w.heap.size (d.cur 0) y (w3.drewN nq) := fun y hy => by have h := hok y hy; exact ⟨h.1, (h.2.le hz2).below b4⟩
  replace hok4 := hid hok4
  generalize w3.drewN nq = w4 at *
  go_wp2_with fail
  go_quiet (fail)
  have b5 := below_drewN (Below.refl w4.heap.size w4) nq
  have hX5 := hX4.below b5
  have hat5 := hat4.below b5
  have b5t := bnext b4t b5
  have so5 := so4.below b5
  have hok5 : ∀ y ∈ xs, RX.ok w.heap.size (d.cur 0) y (w4.drewN nq) := fun y hy => (hok4.out y hy).below b5
  replace hok5 := hid hok5
  generalize w4.drewN nq = w5 at *
  have m5 := hX5.cell0
  have b8 := below_lit w5 (.cells #[.pointer (some ⟨p, 0, none⟩), .int .i64 (M : Int), .int .i64 (M : Int), .int .i64 (SF : Int), .bool false] 69)
  have hB8 := JBlk.new w5 p M M SF false
  have hX8 := hX5.below b8
  have so8 := so5.below b8
  have hat8 : CAt (w5.alloc (.cells #[.pointer (some ⟨p, 0, none⟩), .int .i64 (M : Int), .int .i64 (M : Int), .int .i64 (SF : Int), .bool false] 69)) ra (([] : List RX).flatMap (RX.cells (d.cur 0))) := fun h => absurd rfl h
  have hsj : Sole base w5 p x d := (hs.out.below b5t)
  have hTj := hsj.is.1.turn_lt
  have hRj := hsj.is.1.reads_lt
  have hJ8 : JIs base (w5.alloc (.cells #[.pointer (some ⟨p, 0, none⟩), .int .i64 (M : Int), .int .i64 (M : Int), .int .i64 (SF : Int), .bool false] 69)) w5.heap.size p x ⟨d, M, M, SF, false⟩ := ⟨hB8, hsj.below b8, hM2, fun e => by have := hTj _ e; omega, fun e => by have := hRj _ e; omega⟩
  have hk8 : Kp (Turn p x) w (w5.alloc (.cells #[.pointer (some ⟨p, 0, none⟩), .int .i64 (M : Int), .int .i64 (M : Int), .int .i64 (SF : Int), .bool false] 69)) := (Kp.of_below b5t).then b8
  have hfr : w.heap.size ≤ w5.heap.size := b5t.size
  replace b8 := hid b8
  replace hX8 := hid hX8
  replace hat8 := hid hat8
  replace hB8 := hid hB8
  replace hJ8 := hid hJ8
  replace hk8 := hid hk8
  replace so8 := hid so8
  go_wp2_with fail
  obtain ⟨gj, hgj⟩ : ∃ gj, gj = w5.heap.size := ⟨_, rfl⟩
  obtain ⟨gx, hgx⟩ : ∃ gx, gx = w1.heap.size := ⟨_, rfl⟩
  rw [← hgj] at hJ8 hfr
  rw [← hgx] at hX8
  generalize hw8 : w5.alloc (.cells #[.pointer (some ⟨p, 0, none⟩), .int .i64 (M : Int), .int .i64 (M : Int), .int .i64 (SF : Int), .bool false] 69) = w8 at *
  rw [← hgj, ← hgx]
  replace hgj := hid hgj
  replace hgx := hid hgx
  replace hw8 := hid hw8
  refine wp_region_drawn (Rel := fun w w' => Below w.heap.size w w') (Pr := fun k v W => if k = 6 ∨ k = 9 then BehV (d.cur 0) M ([] : List RX) 0 ra v W else v = ([.pointer (some ⟨gj, 0, none⟩), .pointer (some ⟨gx, 2, none⟩), .slice sa BN sc, .slice ra 0 rc, .pointer (some ⟨gx, 0, none⟩), .int .i64 (M : Int), undef, .pointer (some ⟨gj, 0, none⟩), .slice sa BN sc, undef, .int .i64 0] : List Value).getD k undef) (by kernel_rfl) (by kernel_rfl) (drew_below _) bel_tr (fun k v W W' h hb => by by_cases hk : k = 6 ∨ k = 9 <;> simp only [hk, if_true, if_false] at h ⊢; exact h.below hb; exact h) ?_ ?_
  · refine ⟨?_, ?_, ?_, ?_, ?_, ?_, ?_, ?_, ?_, ?_, ?_, trivial⟩
    · exact fun a w hR hd hk K hK => yes (want_n rfl) (wp_mv _ rfl _ (get_keep (hk 14 (no_dst (by kernel_rfl))) rfl) (hK _ w rfl (Below.refl _ _)))
    · exact fun a w hR hd hk K hK => yes (want_n rfl) (wp_fld27_2 6 gx (get_keep (hk 6 (no_dst (by kernel_rfl))) rfl) (hK _ w rfl (Below.refl _ _)))
    · exact fun a w hR hd hk K hK => yes (want_n rfl) (wp_ld22 103 ⟨gx, 2, none⟩ sa BN sc (hd 1 _ 103 rfl rfl rfl) (hX8.out.below hR).cell2 (hK _ w rfl (Below.refl _ _)))
    · exact fun a w hR hd hk K hK => yes (want_n rfl) (wp_mv _ rfl _ (get_keep (hk 10 (no_dst (by kernel_rfl))) rfl) (hK _ w rfl (Below.refl _ _)))
    · exact fun a w hR hd hk K hK => yes (want_n rfl) (wp_fld27_0 6 gx (get_keep (hk 6 (no_dst (by kernel_rfl))) rfl) (hK _ w rfl (Below.refl _ _)))
    · exact fun a w hR hd hk K hK => yes (want_n rfl) (wp_ld3 106 ⟨gx, 0, none⟩ M (hd 4 _ 106 rfl rfl rfl) (hX8.out.below hR).cell0 (hK _ w rfl (Below.refl _ _)))
    · exact fun a w hR hd hk K hK => yes (want_n rfl) (wp_callv 45 _ _ rfl _ Try.func45 rfl rfl _ (args2 (hd 3 _ 105 rfl rfl rfl) (hd 5 _ 107 rfl rfl rfl)) (behind_v ra 0 rc M (d.cur 0) ([] : List RX) w rfl (by omega) hrc (hat8.out.below hR)) (by rintro e w' ⟨v, rfl, hv, hb⟩; exact ⟨_, rfl, hK _ w' hv hb⟩))
    · exact fun a w hR hd hk K hK => yes (want_n rfl) (wp_as _ rfl _ (hd 0 _ 102 rfl rfl rfl) (hK _ w rfl (Below.refl _ _)))
    · exact fun a w hR hd hk K hK => yes (want_n rfl) (wp_as _ rfl _ (hd 2 _ 104 rfl rfl rfl) (hK _ w rfl (Below.refl _ _)))
    · exact fun a w hR hd hk K hK => yes (want_n rfl) (wp_as _ rfl _ rfl (hK _ w (hd 6 _ 108 rfl rfl rfl) (Below.refl _ _)))
    · exact fun a w hR hd hk K hK => yes (want_n rfl) (wp_as _ rfl _ rfl (hK _ w rfl (Below.refl _ _)))
  · intro a w9 hdf hsz hkp hval hRw
    obtain ⟨f, hf⟩ : ∃ f, f = fun d => a.tmps.getD d undef := ⟨_, rfl⟩
    have h2 : f 2 = .pointer (some ⟨gj, 0, none⟩) := by rw [hf]; exact hval 7 _ 2 rfl rfl
    have h3 : f 3 = .slice sa BN sc := by rw [hf]; exact hval 8 _ 3 rfl rfl
    have h4 : BehV (d.cur 0) M ([] : List RX) 0 ra (f 4) w9 := by rw [hf]; exact hval 9 _ 4 rfl rfl
    have h5 : f 5 = .int .i64 0 := by rw [hf]; exact hval 10 _ 5 rfl rfl
    have hfa := act_filled hdf hsz hkp
    rw [← hf] at hfa
    rw [hfa]
    clear hdf hsz hkp hval hfa hf
    clear a
    simp only [fillAll, List.set_cons_zero, List.set_cons_succ, h2, h3, h5]
    clear h2 h3 h5
    replace h4 := hid h4
    go_wp2
    (try simp only [Exit.inBlock, Exit.then])
    refine bodyPost_ret (results_tmp4 rfl _ _) rfl ?_
    refine ⟨gj, sa, sc, f 4, x, rfl, hJ8.out.below hRw, hfr, (so8.out.below hRw).le (Nat.le_refl _), ⟨([] : List RX), ra, ?_, h4.out, ?_, ?_⟩, grow_refl _ _ _, hk8.out.then hRw⟩
    · rfl
    · exact fun y hy => absurd hy List.not_mem_nil
    · exact fun ad e => by have h1 := (hrl _ e).1; omega

set_option maxRecDepth 100000 in
set_option maxHeartbeats 8000000 in
theorem open_empty_ok (base p : Nat) (x : Dx) (d : Dsk) (w : World) (M SF BN N  : Nat) (body : List UInt8) (D : Dsk) (hs : Sole base w p x d) (hbase : base ≤ w.heap.size) (hops : d.ops.length + 1 ≤ 1000000) (hdn : d.down = false) (hM : M = opNum d) (hS : SF = opFile d) (hb : body = opBody d) (hbn : BN = body.length) (hN : (d.cur 0).length = N) (hps : opPs d = []) (hSN : 0 < N) (hcD : d.csD (0 : Nat) = D) (hcE : d.csE (0 : Nat) = 0) :
    Calls Try.prog 12 #[.pointer (some ⟨p, 0, none⟩)] w fun e w' => ∃ (gj : Nat) (sa : Option Addr) (sc : Nat) (v : Value) (x' : Dx), e = .returned (.tuple #[.pointer (some ⟨gj, 0, none⟩), .slice sa BN sc, v, .int .i64 0]) ∧ OpenAt base w w' p x x' (d.cur 0) body D M SF BN 0 M gj [] sa sc v := by
  have hso := stateon_flat base p x d M SF BN body w hs hdn hM hS hb hbn
  have E0 : d.readE 0 = 0 := by unfold Dsk.readE; rw [hdn]; rfl
  have L0 : d.readB 0 = d.cur 0 := by unfold Dsk.readB; rw [hdn]; rfl
  have S0 := hs.inv.curShort 0 (by omega)
  have hM2 : M ≤ 4611686018427387904 := by rw [hM]; exact opNum_le d
  have hTl := hs.is.1.turn_lt
  replace hM := hid hM
  replace hS := hid hS
  replace hb := hid hb
  replace hbn := hid hbn
  replace E0 := hid E0
  replace L0 := hid L0
  replace hdn := hid hdn
  replace hN := hid hN
  replace hps := hid hps
  replace hcD := hid hcD
  replace hcE := hid hcE
  go_enter Try.func12, Try.ntmps12
  go_wp2_with fail
  refine hso.mono ?_
  rintro e w1 ⟨KV, sa, sc, rfl, so, sb⟩
  have bl1 := below_lit w1 (.cells #[.int .i64 (M : Int), .int .u8 KV, .slice sa BN sc] 27)
  have hX1 := RBlk.new w1 (.int .i64 (M : Int)) (.int .u8 KV) (.slice sa BN sc)
  have hrd := read_sole base p x d 0 0 (d.cur 0) N _ ((hs.below sb).below bl1) E0.out L0.out hN.out
  replace hs := hid hs
  go_wp2_with fail
  refine hrd.mono ?_
  rintro e w2 ⟨la, lc, rfl, lo, lb⟩
  have hcap : N ≤ lc := by obtain ⟨a', c', e, hc, _⟩ := lo.form; injection e with _ e2 e3; have := hN.out; omega
  have hre := records_flat la N lc 0 0 (d.cur 0) [] w2 hN.out (by have := hN.out; omega) hcap lo.at (by have := hps.out; unfold opPs at this; rw [hN.out] at this; exact this.symm) rfl rfl
  go_wp2_with fail
  refine hre.mono ?_
  rintro e w3 ⟨xs, ra, rc, rfl, hxp, hrc, hcat, hrl, hok, rb⟩
  have hX3 := (hX1.below lb).below rb
  have b3 := bnext (bnext (bnext sb bl1) lb) rb
  have so3 := ((so.below bl1).below lb).below rb
  have hz2 := (bnext (bnext sb bl1) lb).size
  replace hxp := hid hxp
  replace hcat := hid hcat
  go_wp2_with fail
  go_quiet (fail)
  have b4 := below_drewN (Below.refl w3.heap.size w3) nq
  have hX4 := hX3.below b4
  have hat4 := hcat.out.below b4
  have b4t := bnext b3 b4
  have so4 := so3.below b4
  have hok4 : ∀ y ∈ xs, RX.ok w.heap.size (d.cur 0) y (w3.drewN nq) := fun y hy => by have h := hok y hy; exact ⟨h.1, (h.2.le hz2).below b4⟩
  replace hok4 := hid hok4
  generalize w3.drewN nq = w4 at *
  go_wp2_with fail
  go_quiet (fail)
  have b5 := below_drewN (Below.refl w4.heap.size w4) nq
  have hX5 := hX4.below b5
  have hat5 := hat4.below b5
  have b5t := bnext b4t b5
  have so5 := so4.below b5
  have hok5 : ∀ y ∈ xs, RX.ok w.heap.size (d.cur 0) y (w4.drewN nq) := fun y hy => (hok4.out y hy).below b5
  replace hok5 := hid hok5
  generalize w4.drewN nq = w5 at *
  have hcs := cutsync_sole base p x d D (0 : Nat) 0 w5 (hs.out.below b5t) (Nat.le_trans hbase b5t.size) hops hcE.out hcD.out
  go_wp2_with fail
  refine hcs.mono ?_
  rintro e w6 ⟨rfl, x6, s6, g6, k6⟩
  have hk6 : Kp (Turn p x) w w6 := (Kp.of_below b5t).trans k6
  have hg6 : Grow w p x x6 := g6.low b5t.size
  have hX6 := hX5.kp k6 (fun e => by have := hTl _ e; have := sb.size; omega)
  have so6 := so5.kp k6 (fun k e1 e2 => by have := (so5.lt k e1).1; have := hTl k e2; omega)
  have hok6 : ∀ y ∈ xs, RX.ok w.heap.size (d.cur 0) y w6 := fun y hy => (hok5.out y hy).kp k6 hTl
  replace hok6 := hid hok6
  have m5 := hX6.cell0
  have b8 := below_lit w6 (.cells #[.pointer (some ⟨p, 0, none⟩), .int .i64 (M : Int), .int .i64 (M : Int), .int .i64 (SF : Int), .bool false] 69)
  have hB8 := JBlk.new w6 p M M SF false
  have hX8 := hX6.below b8
  have so8 := so6.below b8
  have hat8 : CAt (w6.alloc (.cells #[.pointer (some ⟨p, 0, none⟩), .int .i64 (M : Int), .int .i64 (M : Int), .int .i64 (SF : Int), .bool false] 69)) ra (([] : List RX).flatMap (RX.cells (d.cur 0))) := fun h => absurd rfl h
  have hsj : Sole base w6 p x6 D := s6
  have hTj := hsj.is.1.turn_lt
  have hRj := hsj.is.1.reads_lt
  have hJ8 : JIs base (w6.alloc (.cells #[.pointer (some ⟨p, 0, none⟩), .int .i64 (M : Int), .int .i64 (M : Int), .int .i64 (SF : Int), .bool false] 69)) w6.heap.size p x6 ⟨D, M, M, SF, false⟩ := ⟨hB8, hsj.below b8, hM2, fun e => by have := hTj _ e; omega, fun e => by have := hRj _ e; omega⟩
  have hk8 : Kp (Turn p x) w (w6.alloc (.cells #[.pointer (some ⟨p, 0, none⟩), .int .i64 (M : Int), .int .i64 (M : Int), .int .i64 (SF : Int), .bool false] 69)) := hk6.then b8
  have hfr : w.heap.size ≤ w6.heap.size := hk6.size
  replace b8 := hid b8
  replace hX8 := hid hX8
  replace hat8 := hid hat8
  replace hB8 := hid hB8
  replace hJ8 := hid hJ8
  replace hk8 := hid hk8
  replace so8 := hid so8
  go_wp2_with fail
  obtain ⟨gj, hgj⟩ : ∃ gj, gj = w6.heap.size := ⟨_, rfl⟩
  obtain ⟨gx, hgx⟩ : ∃ gx, gx = w1.heap.size := ⟨_, rfl⟩
  rw [← hgj] at hJ8 hfr
  rw [← hgx] at hX8
  generalize hw8 : w6.alloc (.cells #[.pointer (some ⟨p, 0, none⟩), .int .i64 (M : Int), .int .i64 (M : Int), .int .i64 (SF : Int), .bool false] 69) = w8 at *
  rw [← hgj, ← hgx]
  replace hgj := hid hgj
  replace hgx := hid hgx
  replace hw8 := hid hw8
  refine wp_region_drawn (Rel := fun w w' => Below w.heap.size w w') (Pr := fun k v W => if k = 6 ∨ k = 9 then BehV (d.cur 0) M ([] : List RX) 0 ra v W else v = ([.pointer (some ⟨gj, 0, none⟩), .pointer (some ⟨gx, 2, none⟩), .slice sa BN sc, .slice ra 0 rc, .pointer (some ⟨gx, 0, none⟩), .int .i64 (M : Int), undef, .pointer (some ⟨gj, 0, none⟩), .slice sa BN sc, undef, .int .i64 0] : List Value).getD k undef) (by kernel_rfl) (by kernel_rfl) (drew_below _) bel_tr (fun k v W W' h hb => by by_cases hk : k = 6 ∨ k = 9 <;> simp only [hk, if_true, if_false] at h ⊢; exact h.below hb; exact h) ?_ ?_
  · refine ⟨?_, ?_, ?_, ?_, ?_, ?_, ?_, ?_, ?_, ?_, ?_, trivial⟩
    · exact fun a w hR hd hk K hK => yes (want_n rfl) (wp_mv _ rfl _ (get_keep (hk 14 (no_dst (by kernel_rfl))) rfl) (hK _ w rfl (Below.refl _ _)))
    · exact fun a w hR hd hk K hK => yes (want_n rfl) (wp_fld27_2 6 gx (get_keep (hk 6 (no_dst (by kernel_rfl))) rfl) (hK _ w rfl (Below.refl _ _)))
    · exact fun a w hR hd hk K hK => yes (want_n rfl) (wp_ld22 103 ⟨gx, 2, none⟩ sa BN sc (hd 1 _ 103 rfl rfl rfl) (hX8.out.below hR).cell2 (hK _ w rfl (Below.refl _ _)))
    · exact fun a w hR hd hk K hK => yes (want_n rfl) (wp_mv _ rfl _ (get_keep (hk 10 (no_dst (by kernel_rfl))) rfl) (hK _ w rfl (Below.refl _ _)))
    · exact fun a w hR hd hk K hK => yes (want_n rfl) (wp_fld27_0 6 gx (get_keep (hk 6 (no_dst (by kernel_rfl))) rfl) (hK _ w rfl (Below.refl _ _)))
    · exact fun a w hR hd hk K hK => yes (want_n rfl) (wp_ld3 106 ⟨gx, 0, none⟩ M (hd 4 _ 106 rfl rfl rfl) (hX8.out.below hR).cell0 (hK _ w rfl (Below.refl _ _)))
    · exact fun a w hR hd hk K hK => yes (want_n rfl) (wp_callv 45 _ _ rfl _ Try.func45 rfl rfl _ (args2 (hd 3 _ 105 rfl rfl rfl) (hd 5 _ 107 rfl rfl rfl)) (behind_v ra 0 rc M (d.cur 0) ([] : List RX) w rfl (by omega) hrc (hat8.out.below hR)) (by rintro e w' ⟨v, rfl, hv, hb⟩; exact ⟨_, rfl, hK _ w' hv hb⟩))
    · exact fun a w hR hd hk K hK => yes (want_n rfl) (wp_as _ rfl _ (hd 0 _ 102 rfl rfl rfl) (hK _ w rfl (Below.refl _ _)))
    · exact fun a w hR hd hk K hK => yes (want_n rfl) (wp_as _ rfl _ (hd 2 _ 104 rfl rfl rfl) (hK _ w rfl (Below.refl _ _)))
    · exact fun a w hR hd hk K hK => yes (want_n rfl) (wp_as _ rfl _ rfl (hK _ w (hd 6 _ 108 rfl rfl rfl) (Below.refl _ _)))
    · exact fun a w hR hd hk K hK => yes (want_n rfl) (wp_as _ rfl _ rfl (hK _ w rfl (Below.refl _ _)))
  · intro a w9 hdf hsz hkp hval hRw
    obtain ⟨f, hf⟩ : ∃ f, f = fun d => a.tmps.getD d undef := ⟨_, rfl⟩
    have h2 : f 2 = .pointer (some ⟨gj, 0, none⟩) := by rw [hf]; exact hval 7 _ 2 rfl rfl
    have h3 : f 3 = .slice sa BN sc := by rw [hf]; exact hval 8 _ 3 rfl rfl
    have h4 : BehV (d.cur 0) M ([] : List RX) 0 ra (f 4) w9 := by rw [hf]; exact hval 9 _ 4 rfl rfl
    have h5 : f 5 = .int .i64 0 := by rw [hf]; exact hval 10 _ 5 rfl rfl
    have hfa := act_filled hdf hsz hkp
    rw [← hf] at hfa
    rw [hfa]
    clear hdf hsz hkp hval hfa hf
    clear a
    simp only [fillAll, List.set_cons_zero, List.set_cons_succ, h2, h3, h5]
    clear h2 h3 h5
    replace h4 := hid h4
    go_wp2
    (try simp only [Exit.inBlock, Exit.then])
    refine bodyPost_ret (results_tmp4 rfl _ _) rfl ?_
    refine ⟨gj, sa, sc, f 4, x6, rfl, hJ8.out.below hRw, hfr, (so8.out.below hRw).le (Nat.le_refl _), ⟨([] : List RX), ra, ?_, h4.out, ?_, ?_⟩, hg6, hk8.out.then hRw⟩
    · rfl
    · exact fun y hy => absurd hy List.not_mem_nil
    · exact fun ad e => by have h1 := (hrl _ e).1; omega

set_option maxRecDepth 100000 in
set_option maxHeartbeats 8000000 in
theorem open_empty_err (base p : Nat) (x : Dx) (d : Dsk) (w : World) (M SF BN N  : Nat) (body : List UInt8) (D : Dsk) (E : Int) (hs : Sole base w p x d) (hbase : base ≤ w.heap.size) (hops : d.ops.length + 1 ≤ 1000000) (hdn : d.down = false) (hM : M = opNum d) (hS : SF = opFile d) (hb : body = opBody d) (hbn : BN = body.length) (hN : (d.cur 0).length = N) (hps : opPs d = []) (hSN : 0 < N) (hcD : d.csD (0 : Nat) = D) (hcE : d.csE (0 : Nat) = E) (hE0 : E ≠ 0) :
    Calls Try.prog 12 #[.pointer (some ⟨p, 0, none⟩)] w fun e w' => e = .returned (.tuple #[.pointer none, .slice none 0 0, .slice none 0 0, .int .i64 E]) ∧ ∃ x', Sole base w' p x' D ∧ Grow w p x x' ∧ Kp (Turn p x) w w' := by
  have hso := stateon_flat base p x d M SF BN body w hs hdn hM hS hb hbn
  have E0 : d.readE 0 = 0 := by unfold Dsk.readE; rw [hdn]; rfl
  have L0 : d.readB 0 = d.cur 0 := by unfold Dsk.readB; rw [hdn]; rfl
  have S0 := hs.inv.curShort 0 (by omega)
  have hM2 : M ≤ 4611686018427387904 := by rw [hM]; exact opNum_le d
  have hTl := hs.is.1.turn_lt
  replace hM := hid hM
  replace hS := hid hS
  replace hb := hid hb
  replace hbn := hid hbn
  replace E0 := hid E0
  replace L0 := hid L0
  replace hdn := hid hdn
  replace hN := hid hN
  replace hps := hid hps
  replace hcD := hid hcD
  replace hcE := hid hcE
  go_enter Try.func12, Try.ntmps12
  go_wp2_with fail
  refine hso.mono ?_
  rintro e w1 ⟨KV, sa, sc, rfl, so, sb⟩
  have bl1 := below_lit w1 (.cells #[.int .i64 (M : Int), .int .u8 KV, .slice sa BN sc] 27)
  have hX1 := RBlk.new w1 (.int .i64 (M : Int)) (.int .u8 KV) (.slice sa BN sc)
  have hrd := read_sole base p x d 0 0 (d.cur 0) N _ ((hs.below sb).below bl1) E0.out L0.out hN.out
  replace hs := hid hs
  go_wp2_with fail
  refine hrd.mono ?_
  rintro e w2 ⟨la, lc, rfl, lo, lb⟩
  have hcap : N ≤ lc := by obtain ⟨a', c', e, hc, _⟩ := lo.form; injection e with _ e2 e3; have := hN.out; omega
  have hre := records_flat la N lc 0 0 (d.cur 0) [] w2 hN.out (by have := hN.out; omega) hcap lo.at (by have := hps.out; unfold opPs at this; rw [hN.out] at this; exact this.symm) rfl rfl
  go_wp2_with fail
  refine hre.mono ?_
  rintro e w3 ⟨xs, ra, rc, rfl, hxp, hrc, hcat, hrl, hok, rb⟩
  have hX3 := (hX1.below lb).below rb
  have b3 := bnext (bnext (bnext sb bl1) lb) rb
  have so3 := ((so.below bl1).below lb).below rb
  have hz2 := (bnext (bnext sb bl1) lb).size
  replace hxp := hid hxp
  replace hcat := hid hcat
  go_wp2_with fail
  go_quiet (fail)
  have b4 := below_drewN (Below.refl w3.heap.size w3) nq
  have hX4 := hX3.below b4
  have hat4 := hcat.out.below b4
  have b4t := bnext b3 b4
  have so4 := so3.below b4
  have hok4 : ∀ y ∈ xs, RX.ok w.heap.size (d.cur 0) y (w3.drewN nq) := fun y hy => by have h := hok y hy; exact ⟨h.1, (h.2.le hz2).below b4⟩
  replace hok4 := hid hok4
  generalize w3.drewN nq = w4 at *
  go_wp2_with fail
  go_quiet (fail)
  have b5 := below_drewN (Below.refl w4.heap.size w4) nq
  have hX5 := hX4.below b5
  have hat5 := hat4.below b5
  have b5t := bnext b4t b5
  have so5 := so4.below b5
  have hok5 : ∀ y ∈ xs, RX.ok w.heap.size (d.cur 0) y (w4.drewN nq) := fun y hy => (hok4.out y hy).below b5
  replace hok5 := hid hok5
  generalize w4.drewN nq = w5 at *
  have hcs := cutsync_sole base p x d D (0 : Nat) E w5 (hs.out.below b5t) (Nat.le_trans hbase b5t.size) hops hcE.out hcD.out
  have e1 : (E != 0) = true := by simpa using hE0
  go_wp2_with fail
  refine hcs.mono ?_
  rintro e w6 ⟨rfl, x6, s6, g6, k6⟩
  have hk6 : Kp (Turn p x) w w6 := (Kp.of_below b5t).trans k6
  have hg6 : Grow w p x x6 := g6.low b5t.size
  go_wp2
  (try simp only [Exit.inBlock, Exit.then])
  refine bodyPost_ret (results_tmp4 rfl _ _) rfl ?_
  exact ⟨rfl, x6, s6, hg6, hk6⟩

set_option maxRecDepth 100000 in
set_option maxHeartbeats 8000000 in
theorem open_low_ok (base p : Nat) (x : Dx) (d : Dsk) (w : World) (M SF BN N n S P Q : Nat) (body : List UInt8) (D : Dsk) (hs : Sole base w p x d) (hbase : base ≤ w.heap.size) (hops : d.ops.length + 1 ≤ 1000000) (hdn : d.down = false) (hM : M = opNum d) (hS : SF = opFile d) (hb : body = opBody d) (hbn : BN = body.length) (hN : (d.cur 0).length = N) (hps : n = (opPs d).length) (hSS : S = stopP (d.cur 0) (opPs d)) (hn0 : 0 < n) (hn1 : n ≤ 1048577) (hP : ∀ h : 0 < (opPs d).length, P = numAt (d.cur 0) (opPs d)[0]) (hQ : ∀ h : n - 1 < (opPs d).length, Q = numAt (d.cur 0) (opPs d)[n - 1]) (hPM : P ≤ M + 1) (hQM : Q < M) (hSN : 0 < N) (hcD : d.csD (0 : Nat) = D) (hcE : d.csE (0 : Nat) = 0) :
    Calls Try.prog 12 #[.pointer (some ⟨p, 0, none⟩)] w fun e w' => ∃ (gj : Nat) (sa : Option Addr) (sc : Nat) (v : Value) (x' : Dx), e = .returned (.tuple #[.pointer (some ⟨gj, 0, none⟩), .slice sa BN sc, v, .int .i64 0]) ∧ OpenAt base w w' p x x' (d.cur 0) body D M SF BN 0 M gj [] sa sc v := by
  have hso := stateon_flat base p x d M SF BN body w hs hdn hM hS hb hbn
  have E0 : d.readE 0 = 0 := by unfold Dsk.readE; rw [hdn]; rfl
  have L0 : d.readB 0 = d.cur 0 := by unfold Dsk.readB; rw [hdn]; rfl
  have S0 := hs.inv.curShort 0 (by omega)
  have hM2 : M ≤ 4611686018427387904 := by rw [hM]; exact opNum_le d
  have hTl := hs.is.1.turn_lt
  replace hM := hid hM
  replace hS := hid hS
  replace hb := hid hb
  replace hbn := hid hbn
  replace E0 := hid E0
  replace L0 := hid L0
  replace hdn := hid hdn
  replace hN := hid hN
  replace hps := hid hps
  replace hSS := hid hSS
  replace hP := hid hP
  replace hQ := hid hQ
  replace hcD := hid hcD
  replace hcE := hid hcE
  go_enter Try.func12, Try.ntmps12
  go_wp2_with fail
  refine hso.mono ?_
  rintro e w1 ⟨KV, sa, sc, rfl, so, sb⟩
  have bl1 := below_lit w1 (.cells #[.int .i64 (M : Int), .int .u8 KV, .slice sa BN sc] 27)
  have hX1 := RBlk.new w1 (.int .i64 (M : Int)) (.int .u8 KV) (.slice sa BN sc)
  have hrd := read_sole base p x d 0 0 (d.cur 0) N _ ((hs.below sb).below bl1) E0.out L0.out hN.out
  replace hs := hid hs
  go_wp2_with fail
  refine hrd.mono ?_
  rintro e w2 ⟨la, lc, rfl, lo, lb⟩
  have hcap : N ≤ lc := by obtain ⟨a', c', e, hc, _⟩ := lo.form; injection e with _ e2 e3; have := hN.out; omega
  have hre := records_flat la N lc S n (d.cur 0) (opPs d) w2 hN.out (by have := hN.out; omega) hcap lo.at (by unfold opPs; rw [hN.out]) hSS.out hps.out
  go_wp2_with fail
  refine hre.mono ?_
  rintro e w3 ⟨xs, ra, rc, rfl, hxp, hrc, hcat, hrl, hok, rb⟩
  have hX3 := (hX1.below lb).below rb
  have b3 := bnext (bnext (bnext sb bl1) lb) rb
  have so3 := ((so.below bl1).below lb).below rb
  have hz2 := (bnext (bnext sb bl1) lb).size
  have hxl : xs.length = n := by have := congrArg List.length hxp; rw [List.length_map] at this; have := hps.out; omega
  obtain ⟨b, o, rfl, hc⟩ := rx_form hcat (by intro e; subst e; simp at hxl; omega)
  obtain ⟨c0, _, _⟩ := hc 0 (by omega)
  have e0 : numAt (d.cur 0) (xs[0]'(by omega)).p = P := by rw [hP.out (by have := hps.out; omega)]; congr 1; simp only [← hxp, List.getElem_map]
  rw [e0, Nat.zero_mul, Nat.add_zero] at c0
  clear hc e0
  have m0 := hX3.cell0
  have d1 : decide (((M : Int) + 1) < (P : Int)) = false := decide_eq_false (by omega)
  replace hxl := hid hxl
  replace hxp := hid hxp
  replace hcat := hid hcat
  go_wp2_with fail
  go_quiet (fail)
  have b4 := below_drewN (Below.refl w3.heap.size w3) nq
  have hX4 := hX3.below b4
  have hat4 := hcat.out.below b4
  have b4t := bnext b3 b4
  have so4 := so3.below b4
  have hok4 : ∀ y ∈ xs, RX.ok w.heap.size (d.cur 0) y (w3.drewN nq) := fun y hy => by have h := hok y hy; exact ⟨h.1, (h.2.le hz2).below b4⟩
  replace hok4 := hid hok4
  generalize w3.drewN nq = w4 at *
  clear c0 m0
  obtain ⟨b', o', e9, hc⟩ := rx_form hat4 (by intro e; have := hxl.out; subst e; simp at this; omega)
  cases e9
  obtain ⟨cl, _, _⟩ := hc (n - 1) (by have := hxl.out; omega)
  have el : numAt (d.cur 0) (xs[n - 1]'(by have := hxl.out; omega)).p = Q := by rw [hQ.out (by have := hps.out; omega)]; congr 1; simp only [← hxp.out, List.getElem_map]
  have hQ2 : Q ≤ 4611686018427387904 := by rw [← el]; exact (hok _ (List.getElem_mem _)).1.num
  rw [el] at cl
  clear hc el
  have m0 := hX4.cell0
  have d2 : decide ((Q : Int) < (M : Int)) = true := decide_eq_true (by omega)
  go_wp2_with fail
  go_quiet (fail)
  have b5 := below_drewN (Below.refl w4.heap.size w4) nq
  have hX5 := hX4.below b5
  have hat5 := hat4.below b5
  have b5t := bnext b4t b5
  have so5 := so4.below b5
  have hok5 : ∀ y ∈ xs, RX.ok w.heap.size (d.cur 0) y (w4.drewN nq) := fun y hy => (hok4.out y hy).below b5
  replace hok5 := hid hok5
  generalize w4.drewN nq = w5 at *
  clear cl m0 d1 d2
  have hcs := cutsync_sole base p x d D (0 : Nat) 0 w5 (hs.out.below b5t) (Nat.le_trans hbase b5t.size) hops hcE.out hcD.out
  go_wp2_with fail
  refine hcs.mono ?_
  rintro e w6 ⟨rfl, x6, s6, g6, k6⟩
  have hk6 : Kp (Turn p x) w w6 := (Kp.of_below b5t).trans k6
  have hg6 : Grow w p x x6 := g6.low b5t.size
  have hX6 := hX5.kp k6 (fun e => by have := hTl _ e; have := sb.size; omega)
  have so6 := so5.kp k6 (fun k e1 e2 => by have := (so5.lt k e1).1; have := hTl k e2; omega)
  have hok6 : ∀ y ∈ xs, RX.ok w.heap.size (d.cur 0) y w6 := fun y hy => (hok5.out y hy).kp k6 hTl
  replace hok6 := hid hok6
  have m5 := hX6.cell0
  have b8 := below_lit w6 (.cells #[.pointer (some ⟨p, 0, none⟩), .int .i64 (M : Int), .int .i64 (M : Int), .int .i64 (SF : Int), .bool false] 69)
  have hB8 := JBlk.new w6 p M M SF false
  have hX8 := hX6.below b8
  have so8 := so6.below b8
  have hat8 : CAt (w6.alloc (.cells #[.pointer (some ⟨p, 0, none⟩), .int .i64 (M : Int), .int .i64 (M : Int), .int .i64 (SF : Int), .bool false] 69)) none (([] : List RX).flatMap (RX.cells (d.cur 0))) := fun h => absurd rfl h
  have hsj : Sole base w6 p x6 D := s6
  have hTj := hsj.is.1.turn_lt
  have hRj := hsj.is.1.reads_lt
  have hJ8 : JIs base (w6.alloc (.cells #[.pointer (some ⟨p, 0, none⟩), .int .i64 (M : Int), .int .i64 (M : Int), .int .i64 (SF : Int), .bool false] 69)) w6.heap.size p x6 ⟨D, M, M, SF, false⟩ := ⟨hB8, hsj.below b8, hM2, fun e => by have := hTj _ e; omega, fun e => by have := hRj _ e; omega⟩
  have hk8 : Kp (Turn p x) w (w6.alloc (.cells #[.pointer (some ⟨p, 0, none⟩), .int .i64 (M : Int), .int .i64 (M : Int), .int .i64 (SF : Int), .bool false] 69)) := hk6.then b8
  have hfr : w.heap.size ≤ w6.heap.size := hk6.size
  replace b8 := hid b8
  replace hX8 := hid hX8
  replace hat8 := hid hat8
  replace hB8 := hid hB8
  replace hJ8 := hid hJ8
  replace hk8 := hid hk8
  replace so8 := hid so8
  go_wp2_with fail
  obtain ⟨gj, hgj⟩ : ∃ gj, gj = w6.heap.size := ⟨_, rfl⟩
  obtain ⟨gx, hgx⟩ : ∃ gx, gx = w1.heap.size := ⟨_, rfl⟩
  rw [← hgj] at hJ8 hfr
  rw [← hgx] at hX8
  generalize hw8 : w6.alloc (.cells #[.pointer (some ⟨p, 0, none⟩), .int .i64 (M : Int), .int .i64 (M : Int), .int .i64 (SF : Int), .bool false] 69) = w8 at *
  rw [← hgj, ← hgx]
  replace hgj := hid hgj
  replace hgx := hid hgx
  replace hw8 := hid hw8
  refine wp_region_drawn (Rel := fun w w' => Below w.heap.size w w') (Pr := fun k v W => if k = 6 ∨ k = 9 then BehV (d.cur 0) M ([] : List RX) 0 none v W else v = ([.pointer (some ⟨gj, 0, none⟩), .pointer (some ⟨gx, 2, none⟩), .slice sa BN sc, .slice none 0 0, .pointer (some ⟨gx, 0, none⟩), .int .i64 (M : Int), undef, .pointer (some ⟨gj, 0, none⟩), .slice sa BN sc, undef, .int .i64 0] : List Value).getD k undef) (by kernel_rfl) (by kernel_rfl) (drew_below _) bel_tr (fun k v W W' h hb => by by_cases hk : k = 6 ∨ k = 9 <;> simp only [hk, if_true, if_false] at h ⊢; exact h.below hb; exact h) ?_ ?_
  · refine ⟨?_, ?_, ?_, ?_, ?_, ?_, ?_, ?_, ?_, ?_, ?_, trivial⟩
    · exact fun a w hR hd hk K hK => yes (want_n rfl) (wp_mv _ rfl _ (get_keep (hk 14 (no_dst (by kernel_rfl))) rfl) (hK _ w rfl (Below.refl _ _)))
    · exact fun a w hR hd hk K hK => yes (want_n rfl) (wp_fld27_2 6 gx (get_keep (hk 6 (no_dst (by kernel_rfl))) rfl) (hK _ w rfl (Below.refl _ _)))
    · exact fun a w hR hd hk K hK => yes (want_n rfl) (wp_ld22 103 ⟨gx, 2, none⟩ sa BN sc (hd 1 _ 103 rfl rfl rfl) (hX8.out.below hR).cell2 (hK _ w rfl (Below.refl _ _)))
    · exact fun a w hR hd hk K hK => yes (want_n rfl) (wp_mv _ rfl _ (get_keep (hk 10 (no_dst (by kernel_rfl))) rfl) (hK _ w rfl (Below.refl _ _)))
    · exact fun a w hR hd hk K hK => yes (want_n rfl) (wp_fld27_0 6 gx (get_keep (hk 6 (no_dst (by kernel_rfl))) rfl) (hK _ w rfl (Below.refl _ _)))
    · exact fun a w hR hd hk K hK => yes (want_n rfl) (wp_ld3 106 ⟨gx, 0, none⟩ M (hd 4 _ 106 rfl rfl rfl) (hX8.out.below hR).cell0 (hK _ w rfl (Below.refl _ _)))
    · exact fun a w hR hd hk K hK => yes (want_n rfl) (wp_callv 45 _ _ rfl _ Try.func45 rfl rfl _ (args2 (hd 3 _ 105 rfl rfl rfl) (hd 5 _ 107 rfl rfl rfl)) (behind_v none 0 0 M (d.cur 0) ([] : List RX) w rfl (by omega) (Nat.le_refl _) (hat8.out.below hR)) (by rintro e w' ⟨v, rfl, hv, hb⟩; exact ⟨_, rfl, hK _ w' hv hb⟩))
    · exact fun a w hR hd hk K hK => yes (want_n rfl) (wp_as _ rfl _ (hd 0 _ 102 rfl rfl rfl) (hK _ w rfl (Below.refl _ _)))
    · exact fun a w hR hd hk K hK => yes (want_n rfl) (wp_as _ rfl _ (hd 2 _ 104 rfl rfl rfl) (hK _ w rfl (Below.refl _ _)))
    · exact fun a w hR hd hk K hK => yes (want_n rfl) (wp_as _ rfl _ rfl (hK _ w (hd 6 _ 108 rfl rfl rfl) (Below.refl _ _)))
    · exact fun a w hR hd hk K hK => yes (want_n rfl) (wp_as _ rfl _ rfl (hK _ w rfl (Below.refl _ _)))
  · intro a w9 hdf hsz hkp hval hRw
    obtain ⟨f, hf⟩ : ∃ f, f = fun d => a.tmps.getD d undef := ⟨_, rfl⟩
    have h2 : f 2 = .pointer (some ⟨gj, 0, none⟩) := by rw [hf]; exact hval 7 _ 2 rfl rfl
    have h3 : f 3 = .slice sa BN sc := by rw [hf]; exact hval 8 _ 3 rfl rfl
    have h4 : BehV (d.cur 0) M ([] : List RX) 0 none (f 4) w9 := by rw [hf]; exact hval 9 _ 4 rfl rfl
    have h5 : f 5 = .int .i64 0 := by rw [hf]; exact hval 10 _ 5 rfl rfl
    have hfa := act_filled hdf hsz hkp
    rw [← hf] at hfa
    rw [hfa]
    clear hdf hsz hkp hval hfa hf
    clear a
    simp only [fillAll, List.set_cons_zero, List.set_cons_succ, h2, h3, h5]
    clear h2 h3 h5
    replace h4 := hid h4
    go_wp2
    (try simp only [Exit.inBlock, Exit.then])
    refine bodyPost_ret (results_tmp4 rfl _ _) rfl ?_
    refine ⟨gj, sa, sc, f 4, x6, rfl, hJ8.out.below hRw, hfr, (so8.out.below hRw).le (Nat.le_refl _), ⟨([] : List RX), none, ?_, h4.out, ?_, ?_⟩, hg6, hk8.out.then hRw⟩
    · rfl
    · exact fun y hy => absurd hy List.not_mem_nil
    · exact fun ad e => by cases e

set_option maxRecDepth 100000 in
set_option maxHeartbeats 8000000 in
theorem open_low_err (base p : Nat) (x : Dx) (d : Dsk) (w : World) (M SF BN N n S P Q : Nat) (body : List UInt8) (D : Dsk) (E : Int) (hs : Sole base w p x d) (hbase : base ≤ w.heap.size) (hops : d.ops.length + 1 ≤ 1000000) (hdn : d.down = false) (hM : M = opNum d) (hS : SF = opFile d) (hb : body = opBody d) (hbn : BN = body.length) (hN : (d.cur 0).length = N) (hps : n = (opPs d).length) (hSS : S = stopP (d.cur 0) (opPs d)) (hn0 : 0 < n) (hn1 : n ≤ 1048577) (hP : ∀ h : 0 < (opPs d).length, P = numAt (d.cur 0) (opPs d)[0]) (hQ : ∀ h : n - 1 < (opPs d).length, Q = numAt (d.cur 0) (opPs d)[n - 1]) (hPM : P ≤ M + 1) (hQM : Q < M) (hSN : 0 < N) (hcD : d.csD (0 : Nat) = D) (hcE : d.csE (0 : Nat) = E) (hE0 : E ≠ 0) :
    Calls Try.prog 12 #[.pointer (some ⟨p, 0, none⟩)] w fun e w' => e = .returned (.tuple #[.pointer none, .slice none 0 0, .slice none 0 0, .int .i64 E]) ∧ ∃ x', Sole base w' p x' D ∧ Grow w p x x' ∧ Kp (Turn p x) w w' := by
  have hso := stateon_flat base p x d M SF BN body w hs hdn hM hS hb hbn
  have E0 : d.readE 0 = 0 := by unfold Dsk.readE; rw [hdn]; rfl
  have L0 : d.readB 0 = d.cur 0 := by unfold Dsk.readB; rw [hdn]; rfl
  have S0 := hs.inv.curShort 0 (by omega)
  have hM2 : M ≤ 4611686018427387904 := by rw [hM]; exact opNum_le d
  have hTl := hs.is.1.turn_lt
  replace hM := hid hM
  replace hS := hid hS
  replace hb := hid hb
  replace hbn := hid hbn
  replace E0 := hid E0
  replace L0 := hid L0
  replace hdn := hid hdn
  replace hN := hid hN
  replace hps := hid hps
  replace hSS := hid hSS
  replace hP := hid hP
  replace hQ := hid hQ
  replace hcD := hid hcD
  replace hcE := hid hcE
  go_enter Try.func12, Try.ntmps12
  go_wp2_with fail
  refine hso.mono ?_
  rintro e w1 ⟨KV, sa, sc, rfl, so, sb⟩
  have bl1 := below_lit w1 (.cells #[.int .i64 (M : Int), .int .u8 KV, .slice sa BN sc] 27)
  have hX1 := RBlk.new w1 (.int .i64 (M : Int)) (.int .u8 KV) (.slice sa BN sc)
  have hrd := read_sole base p x d 0 0 (d.cur 0) N _ ((hs.below sb).below bl1) E0.out L0.out hN.out
  replace hs := hid hs
  go_wp2_with fail
  refine hrd.mono ?_
  rintro e w2 ⟨la, lc, rfl, lo, lb⟩
  have hcap : N ≤ lc := by obtain ⟨a', c', e, hc, _⟩ := lo.form; injection e with _ e2 e3; have := hN.out; omega
  have hre := records_flat la N lc S n (d.cur 0) (opPs d) w2 hN.out (by have := hN.out; omega) hcap lo.at (by unfold opPs; rw [hN.out]) hSS.out hps.out
  go_wp2_with fail
  refine hre.mono ?_
  rintro e w3 ⟨xs, ra, rc, rfl, hxp, hrc, hcat, hrl, hok, rb⟩
  have hX3 := (hX1.below lb).below rb
  have b3 := bnext (bnext (bnext sb bl1) lb) rb
  have so3 := ((so.below bl1).below lb).below rb
  have hz2 := (bnext (bnext sb bl1) lb).size
  have hxl : xs.length = n := by have := congrArg List.length hxp; rw [List.length_map] at this; have := hps.out; omega
  obtain ⟨b, o, rfl, hc⟩ := rx_form hcat (by intro e; subst e; simp at hxl; omega)
  obtain ⟨c0, _, _⟩ := hc 0 (by omega)
  have e0 : numAt (d.cur 0) (xs[0]'(by omega)).p = P := by rw [hP.out (by have := hps.out; omega)]; congr 1; simp only [← hxp, List.getElem_map]
  rw [e0, Nat.zero_mul, Nat.add_zero] at c0
  clear hc e0
  have m0 := hX3.cell0
  have d1 : decide (((M : Int) + 1) < (P : Int)) = false := decide_eq_false (by omega)
  replace hxl := hid hxl
  replace hxp := hid hxp
  replace hcat := hid hcat
  go_wp2_with fail
  go_quiet (fail)
  have b4 := below_drewN (Below.refl w3.heap.size w3) nq
  have hX4 := hX3.below b4
  have hat4 := hcat.out.below b4
  have b4t := bnext b3 b4
  have so4 := so3.below b4
  have hok4 : ∀ y ∈ xs, RX.ok w.heap.size (d.cur 0) y (w3.drewN nq) := fun y hy => by have h := hok y hy; exact ⟨h.1, (h.2.le hz2).below b4⟩
  replace hok4 := hid hok4
  generalize w3.drewN nq = w4 at *
  clear c0 m0
  obtain ⟨b', o', e9, hc⟩ := rx_form hat4 (by intro e; have := hxl.out; subst e; simp at this; omega)
  cases e9
  obtain ⟨cl, _, _⟩ := hc (n - 1) (by have := hxl.out; omega)
  have el : numAt (d.cur 0) (xs[n - 1]'(by have := hxl.out; omega)).p = Q := by rw [hQ.out (by have := hps.out; omega)]; congr 1; simp only [← hxp.out, List.getElem_map]
  have hQ2 : Q ≤ 4611686018427387904 := by rw [← el]; exact (hok _ (List.getElem_mem _)).1.num
  rw [el] at cl
  clear hc el
  have m0 := hX4.cell0
  have d2 : decide ((Q : Int) < (M : Int)) = true := decide_eq_true (by omega)
  go_wp2_with fail
  go_quiet (fail)
  have b5 := below_drewN (Below.refl w4.heap.size w4) nq
  have hX5 := hX4.below b5
  have hat5 := hat4.below b5
  have b5t := bnext b4t b5
  have so5 := so4.below b5
  have hok5 : ∀ y ∈ xs, RX.ok w.heap.size (d.cur 0) y (w4.drewN nq) := fun y hy => (hok4.out y hy).below b5
  replace hok5 := hid hok5
  generalize w4.drewN nq = w5 at *
  clear cl m0 d1 d2
  have hcs := cutsync_sole base p x d D (0 : Nat) E w5 (hs.out.below b5t) (Nat.le_trans hbase b5t.size) hops hcE.out hcD.out
  have e1 : (E != 0) = true := by simpa using hE0
  go_wp2_with fail
  refine hcs.mono ?_
  rintro e w6 ⟨rfl, x6, s6, g6, k6⟩
  have hk6 : Kp (Turn p x) w w6 := (Kp.of_below b5t).trans k6
  have hg6 : Grow w p x x6 := g6.low b5t.size
  go_wp2
  (try simp only [Exit.inBlock, Exit.then])
  refine bodyPost_ret (results_tmp4 rfl _ _) rfl ?_
  exact ⟨rfl, x6, s6, hg6, hk6⟩

set_option maxRecDepth 100000 in
set_option maxHeartbeats 8000000 in
theorem open_bad (base p : Nat) (x : Dx) (d : Dsk) (w : World) (M SF BN N n S P : Nat) (body : List UInt8) (hs : Sole base w p x d) (hdn : d.down = false) (hM : M = opNum d) (hS : SF = opFile d) (hb : body = opBody d) (hbn : BN = body.length) (hN : (d.cur 0).length = N) (hps : n = (opPs d).length) (hSS : S = stopP (d.cur 0) (opPs d)) (hn0 : 0 < n) (hn1 : n ≤ 1048577) (hP : ∀ h : 0 < (opPs d).length, P = numAt (d.cur 0) (opPs d)[0]) (hPM : M + 1 < P) :
    Calls Try.prog 12 #[.pointer (some ⟨p, 0, none⟩)] w fun e w' => e = .returned (.tuple #[.pointer none, .slice none 0 0, .slice none 0 0, .int .i64 70]) ∧ Below w.heap.size w w' := by
  have hso := stateon_flat base p x d M SF BN body w hs hdn hM hS hb hbn
  have E0 : d.readE 0 = 0 := by unfold Dsk.readE; rw [hdn]; rfl
  have L0 : d.readB 0 = d.cur 0 := by unfold Dsk.readB; rw [hdn]; rfl
  have S0 := hs.inv.curShort 0 (by omega)
  have hM2 : M ≤ 4611686018427387904 := by rw [hM]; exact opNum_le d
  have hTl := hs.is.1.turn_lt
  replace hM := hid hM
  replace hS := hid hS
  replace hb := hid hb
  replace hbn := hid hbn
  replace E0 := hid E0
  replace L0 := hid L0
  replace hdn := hid hdn
  replace hN := hid hN
  replace hps := hid hps
  replace hSS := hid hSS
  replace hP := hid hP
  go_enter Try.func12, Try.ntmps12
  go_wp2_with fail
  refine hso.mono ?_
  rintro e w1 ⟨KV, sa, sc, rfl, so, sb⟩
  have bl1 := below_lit w1 (.cells #[.int .i64 (M : Int), .int .u8 KV, .slice sa BN sc] 27)
  have hX1 := RBlk.new w1 (.int .i64 (M : Int)) (.int .u8 KV) (.slice sa BN sc)
  have hrd := read_sole base p x d 0 0 (d.cur 0) N _ ((hs.below sb).below bl1) E0.out L0.out hN.out
  replace hs := hid hs
  go_wp2_with fail
  refine hrd.mono ?_
  rintro e w2 ⟨la, lc, rfl, lo, lb⟩
  have hcap : N ≤ lc := by obtain ⟨a', c', e, hc, _⟩ := lo.form; injection e with _ e2 e3; have := hN.out; omega
  have hre := records_flat la N lc S n (d.cur 0) (opPs d) w2 hN.out (by have := hN.out; omega) hcap lo.at (by unfold opPs; rw [hN.out]) hSS.out hps.out
  go_wp2_with fail
  refine hre.mono ?_
  rintro e w3 ⟨xs, ra, rc, rfl, hxp, hrc, hcat, hrl, hok, rb⟩
  have hX3 := (hX1.below lb).below rb
  have b3 := bnext (bnext (bnext sb bl1) lb) rb
  have so3 := ((so.below bl1).below lb).below rb
  have hz2 := (bnext (bnext sb bl1) lb).size
  have hxl : xs.length = n := by have := congrArg List.length hxp; rw [List.length_map] at this; have := hps.out; omega
  obtain ⟨b, o, rfl, hc⟩ := rx_form hcat (by intro e; subst e; simp at hxl; omega)
  obtain ⟨c0, _, _⟩ := hc 0 (by omega)
  have e0 : numAt (d.cur 0) (xs[0]'(by omega)).p = P := by rw [hP.out (by have := hps.out; omega)]; congr 1; simp only [← hxp, List.getElem_map]
  rw [e0, Nat.zero_mul, Nat.add_zero] at c0
  clear hc e0
  have m0 := hX3.cell0
  have d1 : decide (((M : Int) + 1) < (P : Int)) = true := decide_eq_true (by omega)
  replace hxl := hid hxl
  replace hxp := hid hxp
  replace hcat := hid hcat
  go_wp2_with fail
  go_quiet (fail)
  have b4 := below_drewN (Below.refl w3.heap.size w3) nq
  have b4t := bnext b3 b4
  generalize w3.drewN nq = w4 at *
  clear c0 m0
  go_wp2
  (try simp only [Exit.inBlock, Exit.then])
  refine bodyPost_ret (results_tmp4 rfl _ _) rfl ?_
  exact ⟨rfl, b4t⟩

end Go.Proofs.Ytcbgnodmamcmkaa
