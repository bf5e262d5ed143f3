/- FrameTells's Go text returns true for any frame and any pieces of up to a MiB each, and turns nothing that was there. -/
import Derived.Test.YtdhafnmahpafaaaRefFeed2
import Derived.Test.YtdhafnmahpafaaaTellsBase
import Derived.Test.YtdhafnmahpafaaaCopy
import Derived.Deep.DeepCutAuto
namespace Go.Proofs.Ytdhafnmahpafaaa
open Go.RowKit

/-- These pieces lie behind the address. -/
def PAt (w : World) (a : Option Addr) (ps : List It) : Prop :=
  (ps ≠ [] → ∃ b o, a = some ⟨b, o, none⟩ ∧ ∀ j (h : j < ps.length), w.cell? ⟨b, o + j, none⟩ = some (.slice ps[j].a ps[j].body.length ps[j].c)) ∧ ∀ i ∈ ps, At w i.a i.body

theorem Blk.ne_at {w : World} {p n c : Nat} {a : Option Addr} {br : Bool} {x : Option Addr} {m : List UInt8} (h : Blk w p br (.slice a n c)) (hat : At w x m) (hm : m ≠ []) : ∀ y, x = some y → y.block ≠ p := by
  obtain ⟨b', o, rfl, hc⟩ := hat hm
  intro y hy e
  cases hy
  simp only at e
  subst e
  have hp : 0 < m.length := List.length_pos_iff.2 hm
  have h1 := hc 0 hp
  unfold Blk at h
  rw [cell_of_row w b' (o + 0) _ 46 (0, 0) h] at h1
  match o with
  | 0 => simp at h1
  | 1 => simp at h1
  | 2 => simp at h1
  | o + 3 => simp at h1

theorem Blk.ne_rb {w : World} {p g : Nat} {br b : Bool} {v u : Value} (h : Blk w p br v) (hr : RBlk w g u b) : g ≠ p := by
  intro e
  subst e
  unfold Blk at h
  unfold RBlk at hr
  rw [h] at hr
  simp at hr

/-- What a round keeps. -/
structure TellR (w wr : World) (p g : Nat) (st : Option (List UInt8)) (v : Value) (al : Option Addr) (cl : Nat) : Prop where
  rd : Rd wr p v st
  rb : RBlk wr g (.slice al (st.getD []).length cl) st.isNone
  mem : At wr al (st.getD [])
  ap : st.getD [] ≠ [] → ∀ x, al = some x → v.ownBlock ≠ some x.block
  hi : ∀ k, v.ownBlock = some k → w.heap.size ≤ k
  below : Below w.heap.size w wr

theorem TellR.step {w wr w' : World} {p g : Nat} {st : Option (List UInt8)} {v : Value} {al : Option Addr} {cl : Nat} (h : TellR w wr p g st v al cl) (hb : Below wr.heap.size wr w') : TellR w w' p g st v al cl :=
  ⟨h.rd.below hb, h.rb.below hb, h.mem.below hb, h.ap, h.hi, bnext h.below hb⟩

/-- What the document's Feed has left in the law's own variables. -/
def Cut16 (w4 wx : World) (fs : List Fr) (st' : Option (List UInt8)) (E : Int) (t18 t19 t20 : Value) : Prop :=
  ∃ g18 a5 c5 am cm its2, t18 = .pointer (some ⟨g18, 0, none⟩) ∧ t19 = .slice am its2.length cm ∧ t20 = .int .i64 E ∧ its2.map It.fr = fs ∧ RBlk wx g18 (.slice a5 (st'.getD []).length c5) st'.isNone ∧ At wx a5 (st'.getD []) ∧
    Frs wx (fun k => w4.heap.size ≤ k) (.slice am its2.length cm) its2 ∧ Below w4.heap.size w4 wx ∧ (st'.getD [] ≠ [] → ∀ x, a5 = some x → w4.heap.size ≤ x.block)

theorem cutB {w4 w5 : World} {fs : List Fr} {st' : Option (List UInt8)} {E : Int} {a5 am : Option Addr} {c5 cm : Nat} {its2 : List It} (m2 : its2.map It.fr = fs) (q5 : At w5 a5 (st'.getD [])) (hf5 : Frs w5 (fun k => w4.drew.heap.size ≤ k) (.slice am its2.length cm) its2) (hb5 : Below w4.drew.heap.size w4.drew w5)
    (hab5 : st'.getD [] ≠ [] → ∀ x, a5 = some x → w4.drew.heap.size ≤ x.block) :
    Cut16 w4 (w5.alloc (.cells #[.slice a5 (st'.getD []).length c5, .bool st'.isNone] 39)) fs st' E (.pointer (some ⟨w5.heap.size, 0, none⟩)) (.slice am its2.length cm) (.int .i64 E) :=
  ⟨_, _, _, _, _, _, rfl, rfl, rfl, m2, RBlk.new w5 _ _, q5.below (below_lit w5 _), hf5.below (below_lit w5 _), (undrew hb5).alloc hb5.size _, hab5⟩

theorem cutA {w4 w5 : World} {fs : List Fr} {st' : Option (List UInt8)} {E : Int} {a5 am : Option Addr} {c5 cm : Nat} {its2 : List It} {o1 : Obj} {x : Value} {bx : Bool} (m2 : its2.map It.fr = fs) (q5 : At w5 a5 (st'.getD [])) (hf5 : Frs w5 (fun k => (w4.alloc o1).drew.heap.size ≤ k) (.slice am its2.length cm) its2) (hb5 : Below (w4.alloc o1).drew.heap.size (w4.alloc o1).drew w5)
    (hab5 : st'.getD [] ≠ [] → ∀ x, a5 = some x → (w4.alloc o1).drew.heap.size ≤ x.block) (hR : RBlk w5 w4.heap.size x bx) :
    Cut16 w4 ((w5.setCell ⟨w4.heap.size, 0, none⟩ (.slice a5 (st'.getD []).length c5)).setCell ⟨w4.heap.size, 1, none⟩ (.bool st'.isNone)) fs st' E (.pointer (some ⟨w4.heap.size, 0, none⟩)) (.slice am its2.length cm) (.int .i64 E) := by
  have hsz : (w4.alloc o1).drew.heap.size = w4.heap.size + 1 := by simp
  have hk : Kp (fun k => k = w4.heap.size) w5 ((w5.setCell ⟨w4.heap.size, 0, none⟩ (.slice a5 (st'.getD []).length c5)).setCell ⟨w4.heap.size, 1, none⟩ (.bool st'.isNone)) := Kp.setCell (S := fun k => k = w4.heap.size) (p := ⟨w4.heap.size, 1, none⟩) (Kp.setCell (S := fun k => k = w4.heap.size) (p := ⟨w4.heap.size, 0, none⟩) (Kp.refl _ _) rfl _) rfl _
  rw [hsz] at hf5 hab5
  refine ⟨_, _, _, _, _, _, rfl, rfl, rfl, m2, hR.set _ _, ?_, (hf5.kp hk (fun k hk' e => by omega)).mono fun k hk' => by omega, ?_, fun hne y hy => by have := hab5 hne y hy; omega⟩
  · by_cases he : st'.getD [] = []
    · rw [he]; exact at_nil _ _
    · exact q5.kp hk fun y hy e => by have := hab5 he y hy; omega
  · exact (((bnext (below_lit w4 o1) (undrew hb5)).setCell (p := ⟨w4.heap.size, 0, none⟩) (Nat.le_refl _) _).setCell (p := ⟨w4.heap.size, 1, none⟩) (Nat.le_refl _) _)

theorem tell_next {w w8 : World} {p g : Nat} {st' : Option (List UInt8)} {v' x : Value} {bx : Bool} {a5 : Option Addr} {c5 : Nat} (hrp : Rd w8 p v' st') (hrb : RBlk w8 g x bx) (q8 : At w8 a5 (st'.getD [])) (hb : Below w.heap.size w w8) (hg : w.heap.size ≤ g)
    (hag : st'.getD [] ≠ [] → ∀ x, a5 = some x → g < x.block) (hav : st'.getD [] ≠ [] → ∀ x, a5 = some x → v'.ownBlock ≠ some x.block) (hi : ∀ k, v'.ownBlock = some k → w.heap.size ≤ k) :
    TellR w ((w8.setCell ⟨g, 0, none⟩ (.slice a5 (st'.getD []).length c5)).setCell ⟨g, 1, none⟩ (.bool st'.isNone)) p g st' v' a5 c5 := by
  have hk : Kp (fun k => k = g) w8 ((w8.setCell ⟨g, 0, none⟩ (.slice a5 (st'.getD []).length c5)).setCell ⟨g, 1, none⟩ (.bool st'.isNone)) := Kp.setCell (S := fun k => k = g) (p := ⟨g, 1, none⟩) (Kp.setCell (S := fun k => k = g) (p := ⟨g, 0, none⟩) (Kp.refl _ _) rfl _) rfl _
  refine ⟨hrp.kp hk (fun e => hrp.1.ne_rb hrb e.symm) (hrb.ne_owns hrp.2 (by decide)), hrb.set _ _, ?_, hav, hi, (hb.setCell (p := ⟨g, 0, none⟩) hg _).setCell (p := ⟨g, 1, none⟩) hg _⟩
  by_cases he : st'.getD [] = []
  · rw [he]; exact at_nil _ _
  · exact q8.kp hk fun y hy e => by have := hag he y hy; omega

set_option maxRecDepth 100000 in
set_option maxHeartbeats 4000000 in
theorem tells_any (k : UInt8) (fa ap : Option Addr) (lf cf np cp : Nat) (fb : List UInt8) (ps : List It) (w : World) (hfb : fb.length = lf) (hlf : lf ≤ 1048576) (hfat : At w fa fb) (hps : ps.length = np) (hnp : np ≤ 4611686018427387904) (hpat : PAt w ap ps) (hpl : ∀ i ∈ ps, i.body.length ≤ 1048576) :
    Calls Try.prog 4 #[.agg #[.int .u8 (k.toNat : Int), .slice fa lf cf], .slice ap np cp] w fun e w' => e = .returned (.bool true) ∧ Below w.heap.size w w' := by
  subst hps
  have hF := FBlk.new w (k.toNat : Int) (.slice fa lf cf)
  have hbl := below_lit w (.cells #[.int .u8 (k.toNat : Int), .slice fa lf cf] 27)
  go_enter Try.func4, Try.ntmps4
  go_wp2_with fail
  refine (lent_own fa cf lf fb _ hfb (by omega) (hfat.below hbl)).mono ?_
  rintro e w1 ⟨g5, c5, rfl, hc5, hg5, ho5, hb1⟩
  have hF1 := hF.below hb1
  have x0 := hF1.c0
  have x1 := hF1.c1
  replace hb1 := bnext hbl hb1
  have h5 : At w1 (some ⟨g5, 0, none⟩) (fb ++ [77, 78, 79]) := ho5.at'
  clear ho5 hF hbl
  go_wp2_with fail
  refine (put_all k lf c5 (some ⟨g5, 0, none⟩) fb _ hfb (At.head h5)).mono ?_
  rintro e w2 ⟨b2, n2, c2, rfl, hn2, hat2, hb2⟩
  generalize hPO : putOf (k, fb) = PO at *
  obtain ⟨L, E⟩ := PO
  simp only at hn2 hat2 ⊢
  have hF2 := hF1.below hb2
  have y0 := hF2.c0
  have y1 := hF2.c1
  have h5' := h5.below hb2
  replace hb1 := bnext hb1 hb2
  have hfat2 := hfat.below hb1
  clear x0 x1 hF1 hb2 h5
  go_wp2_with fail
  have hrp := refput_all k lf cf fa fb w2 hfb hfat2
  rw [hPO] at hrp
  refine hrp.mono ?_
  rintro e w3 ⟨b3, n3, c3, rfl, hn3, hat3, hb3⟩
  simp only at hn3 hat3 ⊢
  have hF3 := hF2.below hb3
  have z1 := hF3.c1
  have hat2' := hat2.below hb3
  have h5'' := h5'.below hb3
  have hfat3 := hfat2.below hb3
  replace hb1 := bnext hb1 hb3
  clear hrp hPO y0 y1 hF2 hb3 h5' hat2 hfat2
  go_wp2_with fail
  refine (same_any b2 b3 n2 n3 c2 c3 L L _ hn2 hn3 hat2' hat3 rfl).mono ?_
  rintro e w4 ⟨rfl, rfl⟩
  go_wp2_with fail
  refine (kept_any g5 c5 cf lf fa fb _ hfb (by omega) hc5 h5'' hfat3).mono ?_
  rintro e w5 ⟨rfl, rfl⟩
  clear hat2' hat3 hfat3 h5'' z1 hF3 hn2 hn3
  go_wp2_with fail
  refine (new_any _).mono ?_
  rintro e w6 ⟨p, rfl, hp, hrd, hb6⟩
  have hpw : w.heap.size ≤ p := Nat.le_trans hb1.size hp
  have hR := RBlk.new w6 (.slice none 0 0) false
  have hb7 := below_lit w6 (.cells #[.slice none 0 0, .bool false] 39)
  have hz6 := Nat.le_trans hb1.size hb6.size
  replace hb1 := bnext (bnext hb1 hb6) hb7
  have hrd7 := hrd.below hb7
  clear hrd hb6 hb7 hp hfat
  go_wp2_with fail
  obtain ⟨g, hge⟩ : ∃ g, g = w6.heap.size := ⟨_, rfl⟩
  have hgw : w.heap.size ≤ g := by omega
  rw [← hge] at hR
  rw [← hge]
  clear hge hz6
  go_loopw [12] (fun iv wr => ∃ (i : Nat) (st : Option (List UInt8)) (v : Value) (al : Option Addr) (cl : Nat), i ≤ 40 ∧ i ≤ ps.length ∧ iv = .int .i64 i ∧ (st.getD []).length ≤ i * 1048576 ∧ TellR w wr p g st v al cl) (fun iv _ => 40 - (intOf iv).toNat)
  case atStart => exact ⟨0, some [], .slice none 0 0, none, 0, by omega, by omega, rfl, by simp, ⟨hrd7, hR, at_nil _ _, fun h => absurd rfl h, (fun k hk => by cases hk), hb1⟩⟩
  case round =>
    obtain ⟨i, st, v, al, cl, hi40, hil, rfl, hst, hr⟩ := hrel
    by_cases hin : i < ps.length ∧ i < 40
    · obtain ⟨h1, h2⟩ := hin
      have hd1 : decide ((i : Int) < ps.length) = true := decide_eq_true (by omega)
      have hd2 : decide ((i : Int) < 40) = true := decide_eq_true (by omega)
      have hpa := hpat.2 ps[i] (List.getElem_mem _)
      have hpn := hpl ps[i] (List.getElem_mem _)
      obtain ⟨b, o, rfl, hc⟩ := hpat.1 (by intro e; subst e; simp at h1)
      have x1 := hc i h1
      have hblt : b < w.heap.size := World.block_lt_of_cell? w _ x1
      have hcl : ∀ w', Below w.heap.size w w' → w'.cell? ⟨b, o + i, none⟩ = some (.slice ps[i].a ps[i].body.length ps[i].c) ∧ At w' ps[i].a ps[i].body := fun w' hw => ⟨(hw.cell (p := ⟨b, o + i, none⟩) hblt).trans x1, hpa.below hw⟩
      generalize ps[i].body = bs at *
      generalize ps[i].a = pa at *
      generalize ps[i].c = pc at *
      clear x1 hc hpa
      obtain ⟨c0, q0⟩ := hcl _ hr.below
      replace hcl := hid hcl
      go_wp2_with fail
      refine (lent_own pa pc bs.length bs _ rfl (by omega) q0).mono ?_
      rintro e w1 ⟨g13, c13, rfl, hc13, hg13, ho13, hb1⟩
      have hr1 := hr.step hb1
      have hgl := (ho13.lt g13 rfl).2
      have hpl1 := hr.rd.1.lt
      have hgg := hr.rb.lt
      have hvl := fun k hk => (hr.rd.2.lt k hk).2
      have hstb : (st.getD []).length ≤ 41943040 := by omega
      go_wp2_with fail
      refine (copyrd_any p v st _ hr1.rd (by omega)).mono ?_
      rintro e w2 ⟨px, vx, rfl, hpx, hrx, hvx, hb2⟩
      have hr2 := hr1.step hb2
      have hvxl := fun k hk => (hrx.2.lt k hk).2
      have hpxl := hrx.1.lt
      have ho13' := ho13.below hb2
      have hz2 := hb2.size
      go_wp2_with fail
      refine (feed_any p c13 bs.length v (some ⟨g13, 0, none⟩) st bs _ hr2.rd rfl (by omega) (At.head ho13'.at')).mono ?_
      rintro e w3 ⟨af, cf', v', its, m1, rfl, hrd3, hf3, hk3, hv3⟩
      obtain ⟨fs, st', hfd⟩ : ∃ fs st', feedOf st bs = (fs, st') := ⟨_, _, rfl⟩
      rw [hfd] at m1 hrd3 ⊢
      have hEE : (if st'.isNone = true then (30 : Int) else 0) = errOf st' := rfl
      simp only at m1 hrd3 ⊢
      rw [hEE]
      have ho3 := ho13'.kp hk3 (fun k hk e => by
        have e13 : g13 = k := Option.some.inj hk
        rcases e with rfl | e
        · omega
        · have := hvl k e; omega)
      have hrx3 := hrx.kp hk3 (fun e => by rcases e with e | e; omega; have := hvl px e; omega) (fun k hk e => by
        have h9 := hvx k hk
        rcases e with rfl | e
        · omega
        · have := hvl k e; omega)
      have hrb3 := hr2.rb.kp hk3 (fun e => by rcases e with e | e; exact hr2.rd.1.ne_rb hr2.rb e; exact hr2.rb.ne_owns hr2.rd.2 (by decide) g e rfl)
      have hmem3 : At w3 al (st.getD []) := by
        by_cases he : st.getD [] = []
        · rw [he]; exact at_nil _ _
        · obtain ⟨ax, cx, hvx', _, _⟩ := hr2.rd.2.form
          have hbk := hr2.rd.1
          rw [hvx'] at hbk
          refine hr2.mem.kp hk3 (fun x hx e => ?_)
          rcases e with e | e
          · exact hbk.ne_at hr2.mem he x hx e
          · exact hr2.ap he x hx e
      have hbel3 : Below w.heap.size w w3 := hr2.below.trans (hk3.below (fun k hk => by rcases hk with rfl | hk; exact hpw; exact hr2.hi k hk) hr2.below.size)
      obtain ⟨c3, q3⟩ := hcl.out _ hbel3
      obtain ⟨E, hEs⟩ : ∃ E, E = errOf st' := ⟨_, rfl⟩
      rw [← hEs]
      replace hEs := hid hEs
      clear hEE
      go_wp2_with fail
      refine (kept_any g13 c13 pc bs.length pa bs _ rfl (by omega) hc13 ho3.at' q3).mono ?_
      rintro e w3' ⟨rfl, rfl⟩
      go_wp2_with fail
      refine (over_any g13 c13 bs.length wr.heap.size _ _ (by omega) hc13 (by rw [List.length_append]; rfl) ho3).mono ?_
      rintro e w4 ⟨rfl, hk4⟩
      have hz3 := hk3.size
      have hrd4 := hrd3.kp hk4 (fun e => by omega) (fun k hk e => by
        rcases hv3 k hk with h | h
        · have := hvl k h; omega
        · omega)
      have hf4 := hf3.kp hk4 (fun k hk e => by omega)
      have hrx4 := hrx3.kp hk4 (fun e => by omega) (fun k hk e => by have := hvx k hk; omega)
      have hrb4 := hrb3.kp hk4 (fun e => by omega)
      have hmem4 : At w4 al (st.getD []) := by
        by_cases he : st.getD [] = []
        · rw [he]; exact at_nil _ _
        · exact hmem3.kp hk4 (fun x hx e => by have := At.lt hr.mem he x hx; omega)
      have hzr := hr.below.size
      have hbel4 : Below w.heap.size w w4 := hbel3.trans (hk4.below (fun k hk => by omega) hbel3.size)
      obtain ⟨c4, q4⟩ := hcl.out _ hbel4
      have hz4 : w2.heap.size ≤ w4.heap.size := Nat.le_trans hz3 hk4.size
      have hv4 := fun k hk => (hrd4.2.lt k hk).2
      clear hmem3 hrb3 hrx3 hf3 hrd3 ho3 hk4 hk3 c3 q3 ho13 ho13' hrx hr1 hr2
      have hrbc0 := hrb4.c0
      have hrbc1 := hrb4.c1
      have hii : (i : Int) < ps.length := by omega
      have hrf := reffeed_any al pa cl (st.getD []).length bs.length pc st.isNone E st st' bs fs w4.drew hmem4 rfl rfl rfl (by omega) q4 hfd hEs.out
      have hmemA : At (w4.alloc (.cells #[.slice none 0 0, .bool false] 39)).drew al (st.getD []) := hmem4.below (below_lit w4 _).drew
      have qA : At (w4.alloc (.cells #[.slice none 0 0, .bool false] 39)).drew pa bs := q4.below (below_lit w4 _).drew
      have hrfA := reffeed_any al pa cl (st.getD []).length bs.length pc st.isNone E st st' bs fs (w4.alloc (.cells #[.slice none 0 0, .bool false] 39)).drew hmemA rfl rfl rfl (by omega) qA hfd hEs.out
      have hRz : RBlk (w4.alloc (.cells #[.slice none 0 0, .bool false] 39)).drew w4.heap.size (.slice none 0 0) false := RBlk.new w4 _ _
      have hrbA := hrb4.below (below_lit w4 (.cells #[.slice none 0 0, .bool false] 39))
      have hrbA0 := hrbA.c0
      have hrbA1 := hrbA.c1
      obtain ⟨c4A, _⟩ := hcl.out _ (bnext hbel4 (below_lit w4 (.cells #[.slice none 0 0, .bool false] 39)))
      clear hmemA qA
      generalize hnl : (st.getD []).length = nl at *
      generalize hbn : st.isNone = bn at *
      replace hnl := hid hnl
      replace hbn := hid hbn
      go_wp2_with fail
      go_cut [18, 19, 20] (fun t18 t19 t20 wx => Cut16 w4 wx fs st' E t18 t19 t20)
      case first =>
        go_region_with (first
          | (go_at_call 20; refine hrf.mono ?_; rintro e w5 ⟨a5, c5', am, cm, its2, m2, rfl, q5, hf5, hb5, hab5⟩)
          | (go_at_call 20; refine hrfA.mono ?_; rintro e w5 ⟨a5, c5', am, cm, its2, m2, rfl, q5, hf5, hb5, hab5⟩; have hRA := hRz.below hb5; have hRA0 := hRA.c0; have hRA1 := hRA.c1; have hRA2 := hRA.free 0; have hRA3 := hRA.free 1))
        all_goals
          go_wp2_with fail
          go_meet
          first | exact cutB m2 q5 hf5 hb5 hab5 | exact cutA m2 q5 hf5 hb5 hab5 hRA
      case rest =>
        obtain ⟨g18, a5, c5', am, cm, its2, rfl, rfl, rfl, m2, hR5, q5, hf5, hb5, hab5⟩ := hcut
        have hrd5 := hrd4.below hb5
        have hf5l := hf4.below hb5
        have hrx5 := hrx4.below hb5
        have hrb5 := hrb4.below hb5
        have hR50 := hR5.c0
        have hrb50 := hrb5.c0
        have fl := hf5l.fat
        have fm := hf5.fat
        have hil2 : its.length ≤ 4611686018427387904 := by
          have h9 := take_len (st.getD [] ++ bs)
          have h8 : its.length ≤ (takeOf (st.getD [] ++ bs)).1.length := by
            have h7 := congrArg List.length m1
            rw [List.length_map] at h7
            rw [h7]
            cases st with
            | none => simp only [feedOf, Prod.mk.injEq] at hfd; rw [← hfd.1]; simp
            | some lft => have h6 : takeOf (lft ++ bs) = (fs, st') := hfd; simp [h6]
          rw [List.length_append] at h9
          have := hnl.out
          omega
        have hsq : ∀ q, Calls Try.prog 21 #[.slice af its.length cf', .slice am its2.length cm] (wc.drewN q) fun e w' => e = .returned (.bool true) ∧ ∃ m, w' = wc.drewN m := fun q => (samef_q af am its.length its2.length cf' cm its its2 (wc.drewN q) rfl rfl hil2 (fl.below (below_drewN (Below.refl _ _) _)) (fm.below (below_drewN (Below.refl _ _) _)) (by rw [m1, m2])).mono fun e w' h => ⟨h.1, by obtain ⟨q', hq'⟩ := h.2; exact ⟨q + q', by rw [hq', World.drewN_drewN]⟩⟩
        have hlx : ∀ q, Calls Try.prog 11 #[.pointer (some ⟨px, 0, none⟩)] (wc.drewN q) fun e w' => e = .returned (.int .i64 (nl : Int)) ∧ w' = wc.drewN q := fun q => by rw [← hnl.out]; exact left_any px vx st _ (hrx5.below (below_drewN (Below.refl _ _) _))
        have hlr : ∀ q, Calls Try.prog 11 #[.pointer (some ⟨p, 0, none⟩)] (wc.drewN q) fun e w' => e = .returned (.int .i64 ((st'.getD []).length : Int)) ∧ w' = wc.drewN q := fun q => left_any p v' st' _ (hrd5.below (below_drewN (Below.refl _ _) _))
        have H5 : Hid (Rd wc p v' st' ∧ Rd wc px vx st ∧ RBlk wc g (.slice al nl cl) bn ∧ RBlk wc g18 (.slice a5 (st'.getD []).length c5') st'.isNone ∧ Frs wc (fun k => w4.heap.size ≤ k) (.slice am its2.length cm) its2 ∧ At wc a5 (st'.getD []) ∧ Below w4.heap.size w4 wc) := ⟨hrd5, hrx5, hrb5, hR5, hf5, q5, hb5⟩
        have H4 : Hid ((∀ k, v'.ownBlock = some k → k < w4.heap.size) ∧ (∀ k, vx.ownBlock = some k → k < w2.heap.size) ∧ (∀ k, vx.ownBlock = some k → w1.heap.size ≤ k) ∧ (∀ k, v.ownBlock = some k → k < wr.heap.size) ∧ (∀ k, v'.ownBlock = some k → v.ownBlock = some k ∨ w2.heap.size ≤ k) ∧ (st'.getD [] ≠ [] → ∀ x, a5 = some x → w4.heap.size ≤ x.block) ∧ its.map It.fr = fs ∧ its2.map It.fr = fs ∧ feedOf st bs = (fs, st') ∧ TellR w wr p g st v al cl) := ⟨hv4, hvxl, hvx, hvl, hv3, hab5, m1, m2, hfd, hr⟩
        clear hrd5 hrx5 hrb5 hR5 hf5 q5 hb5 hv4 hvxl hvx hvl hv3 hab5 m1 m2 hfd hr fl fm hf5l hf4 hrd4 hrx4 hrb4 hmem4 hrbc0 hrbc1
        have hne1 : (E != E) = false := by simp
        have hne2 : ((nl : Int) != (nl : Int)) = false := by simp
        generalize hn5 : (st'.getD []).length = n5 at *
        replace hn5 := hid hn5
        have hne3 : ((n5 : Int) != (n5 : Int)) = false := by simp
        go_wp2_with fail
        go_quiet (first | (go_at_call 21; exact hsq _) | (go_at_call_of 11 px; exact Calls.quiet_of_same (hlx _)) | (go_at_call_of 11 p; exact Calls.quiet_of_same (hlr _)))
        obtain ⟨hrd5, hrx5, hrb5, hR5, hf5, q5, hb5⟩ := H5.out
        obtain ⟨hv4, hvxl, hvx, hvl, hv3, hab5, m1, m2, hfd, hr⟩ := H4.out
        have hbq := below_drewN (Below.refl wc.heap.size wc) nq
        have hrd6 := hrd5.below hbq
        have hrx6 := hrx5.below hbq
        have hrb6 := hrb5.below hbq
        have hR6 := hR5.below hbq
        have hf6 := hf5.below hbq
        have q6 := q5.below hbq
        replace hb5 := bnext hb5 hbq
        clear hsq hlx hlr hrd5 hrx5 hrb5 hR5 hf5 q5 hR50 hrb50 hbq H5 H4
        generalize wc.drewN nq = w6 at *
        have hbel6 := bnext hbel4 hb5
        obtain ⟨c6, p6⟩ := hcl.out _ hbel6
        have hnl2 := hnl.out
        go_wp2_with fail
        refine (feed_any px pc bs.length vx pa st bs _ hrx6 rfl (by omega) p6).mono ?_
        rintro e w7 ⟨ak, ck, vx', its3, m3, rfl, hrd7, hf7, hk7, hv7⟩
        rw [hfd] at m3 hrd7 ⊢
        simp only at m3 ⊢
        have hEE : (if st'.isNone = true then (30 : Int) else 0) = E := hEs.out.symm
        rw [hEE]
        have hrp7 := hrd6.kp hk7 (fun e => by rcases e with e | e; omega; exact hrd6.1.ne hrx6.2 p e rfl) (fun k hk e => by
          rcases e with rfl | e
          · exact hrx6.1.ne hrd6.2 k hk rfl
          · have h7 := hvx k e; have h8 := hvxl k e
            rcases hv3 k hk with h | h
            · have := hvl k h; omega
            · omega)
        have hfm7 := hf6.kp hk7 (fun k hk e => by
          rcases e with rfl | e
          · omega
          · have h8 := hvxl k e; omega)
        have hR7 := hR6.kp hk7 (fun e => by rcases e with e | e; exact hrx6.1.ne_rb hR6 e; exact hR6.ne_owns hrx6.2 (by decide) g18 e rfl)
        have hrb7 := hrb6.kp hk7 (fun e => by rcases e with e | e; exact hrx6.1.ne_rb hrb6 e; exact hrb6.ne_owns hrx6.2 (by decide) g e rfl)
        have q7 : At w7 a5 (st'.getD []) := by
          by_cases he : st'.getD [] = []
          · rw [he]; exact at_nil _ _
          · refine q6.kp hk7 (fun x hx e => ?_)
            have h9 := hab5 he x hx
            rcases e with e | e
            · omega
            · have h8 := hvxl _ e; omega
        have hbel7 : Below w.heap.size w w7 := hbel6.trans (hk7.below (fun k hk => by
          rcases hk with rfl | hk
          · omega
          · have := hvx k hk; omega) hbel6.size)
        have fk := hf7.fat
        have fm := hfm7.fat
        have hil3 : its3.length ≤ 4611686018427387904 := by
          have h5 := congrArg List.length (m3.trans m1.symm)
          simp only [List.length_map] at h5
          omega
        have m32 : Hid (its3.map It.fr = its2.map It.fr) := m3.trans m2.symm
        clear hnl2
        go_wp2_with fail
        refine (samef_any ak am its3.length its2.length ck cm its3 its2 _ rfl rfl hil3 fk fm m32.out).mono ?_
        rintro e w8 ⟨rfl, hb8⟩
        have hR8 := hR7.below hb8
        have hrb8 := hrb7.below hb8
        have hrp8 := hrp7.below hb8
        have q8 := q7.below hb8
        have d0 := hR8.c0
        have d1 := hR8.c1
        have d2 := hrb8.c0
        have d3 := hrb8.c1
        have d4 := hrb8.free 0
        have d5 := hrb8.free 1
        have hbel8 := bnext hbel7 hb8
        have hlen' : (st'.getD []).length ≤ (i + 1) * 1048576 := by
          have h9 := take_len (st.getD [] ++ bs)
          rw [List.length_append] at h9
          cases st with
          | none => simp only [feedOf, Prod.mk.injEq] at hfd; rw [← hfd.2]; simp
          | some lft =>
            have h6 : takeOf (lft ++ bs) = (fs, st') := hfd
            have h4 := hnl.out
            simp only [Option.getD_some] at h9 h4
            rw [h6] at h9
            simp only at h9
            omega
        have hT := tell_next hrp8 hrb8 q8 hbel8 hgw (a5 := a5) (c5 := c5') (fun he x hx => by have := hab5 he x hx; omega) (fun he x hx e => by have h1 := hab5 he x hx; have h2 := hv4 _ e; omega) (fun k hk => by
          rcases hv3 k hk with h | h
          · exact hr.hi k h
          · omega)
        rw [hn5.out] at hT
        replace hlen' := hid hlen'
        replace hT := hid hT
        go_wp2
        go_roundw
        case rel => exact ⟨i + 1, st', v', a5, c5', by omega, by omega, by go_num, hlen'.out, hT.out⟩
        case measure => simp [intOf]; omega
    · have hout : i = ps.length ∨ (i < ps.length ∧ i = 40) := by omega
      clear hin
      rcases hout with rfl | ⟨hlt, rfl⟩
      · go_wp2_with (go_at_call 13; refine (awake_any _).mono ?_; rintro e w9 ⟨rfl, hb9⟩)
        go_ret
        exact ⟨rfl, bnext hr.below hb9⟩
      · have hd1 : decide ((40 : Int) < ps.length) = true := decide_eq_true (by omega)
        go_wp2_with (go_at_call 13; refine (awake_any _).mono ?_; rintro e w9 ⟨rfl, hb9⟩)
        go_ret
        exact ⟨rfl, bnext hr.below hb9⟩
end Go.Proofs.Ytdhafnmahpafaaa
