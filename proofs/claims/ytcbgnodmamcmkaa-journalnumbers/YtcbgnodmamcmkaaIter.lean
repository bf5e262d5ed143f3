/- The iterator of records: which come, and what holds of each when it comes. -/
import Derived.Test.YtcbgnodmamcmkaaRange
import Derived.Test.YtcbgnodmamcmkaaEntAt
import Derived.Shelf.Abstract
import Derived.Shelf.RegionOpen
import Derived.WalkKit
import Derived.OwnWalkIn
import Derived.TacticsInMore
import Derived.LoopNIn
import Derived.LoopIn
import Derived.RegionIn
import Derived.BigRegionIn
namespace Go.Proofs.Ytcbgnodmamcmkaa
open Go.RowKit Go.Shelf
attribute [local go_sem] Oper.semAt_some

/-- A record that comes: its place, and where its body lies. -/
structure RX where
  p : Nat
  a : Option Addr
  c : Nat
def RX.encs (l : List UInt8) (x : RX) : Array Value := #[.agg #[.int .i64 (numAt l x.p : Int), .int .u8 ((kindAt l x.p).toNat : Int), .slice x.a (sizeAt l x.p - 9) x.c], .int .i64 (endAt l x.p : Int)]
def RX.ok (n₀ : Nat) (l : List UInt8) (x : RX) (W : World) : Prop := EntAt l x.p 65536 ∧ Own W n₀ (.slice x.a (sizeAt l x.p - 9) x.c) (bodyAt l x.p)

/-- A record stands there, with the number that is looked for. -/
def Stands (l : List UInt8) (p : Nat) (nx : Int) : Prop := EntAt l p 65536 ∧ numAt l p ≠ 0 ∧ (nx = 0 ∨ (numAt l p : Int) = nx)

/-- Whether a record stands there can be told. -/
def standsDec (l : List UInt8) (p : Nat) (nx : Int) : Decidable (Stands l p nx) :=
  have := entDec l p 65536
  inferInstanceAs (Decidable (EntAt l p 65536 ∧ numAt l p ≠ 0 ∧ (nx = 0 ∨ (numAt l p : Int) = nx)))

/-- The places of the records, one behind the other. -/
def poss (l : List UInt8) : Nat → Nat → Int → List Nat
  | 0, _, _ => []
  | f + 1, p, nx => @ite (List Nat) (Stands l p nx) (standsDec l p nx) (p :: poss l f (endAt l p) ((numAt l p : Int) + 1)) []

theorem poss_yes (l : List UInt8) (f p : Nat) (nx : Int) (h : Stands l p nx) : poss l (f + 1) p nx = p :: poss l f (endAt l p) ((numAt l p : Int) + 1) := by
  rw [poss, if_pos h]
theorem poss_no (l : List UInt8) (f p : Nat) (nx : Int) (h : ¬ Stands l p nx) : poss l f p nx = [] := by
  cases f with
  | zero => rfl
  | succ f => rw [poss, if_neg h]

theorem grow_none {W W' : World} (hb : Below W.heap.size W W') : W.grownBy W' none := ⟨hb.os, hb.tape, hb.output, hb.size, fun k hk _ => hb.block k hk⟩

/-- The block of the row that the box gr holds. -/
def RowOf (gr : Nat) (W : World) (k : Nat) : Prop := ∃ v, W.cell? ⟨gr, 0, none⟩ = some v ∧ v.ownBlock = some k

/-- What a round keeps: all cells but those of the two boxes gr, gs and of the row in gr, which may be a newer one behind it. -/
structure Kr (gr gs : Nat) (W W' : World) : Prop where
  size : W.heap.size ≤ W'.heap.size
  keep : ∀ k cs t fr, W.heap[k]? = some (.cells cs t fr) → k ≠ gr → k ≠ gs → ¬ RowOf gr W k → W'.heap[k]? = some (.cells cs t fr)
  row : ∀ k, RowOf gr W' k → RowOf gr W k ∨ W.heap.size ≤ k
  low : (∀ k, RowOf gr W k → k < W.heap.size) → ∀ k, RowOf gr W' k → k < W'.heap.size

theorem cells_of {W : World} {ad : Addr} {v : Value} (h : W.cell? ad = some v) : ∃ cs t fr, W.heap[ad.block]? = some (.cells cs t fr) := by
  unfold World.cell? at h
  cases hh : W.heap[ad.block]? with
  | none => rw [hh] at h; cases h
  | some o =>
    rw [hh] at h
    cases o <;> first | exact ⟨_, _, _, rfl⟩ | cases h

theorem Kr.trans {gr gs : Nat} {A B C : World} (h : Kr gr gs A B) (k : Kr gr gs B C) : Kr gr gs A C := by
  refine ⟨Nat.le_trans h.size k.size, fun j cs t fr hc h1 h2 h3 => ?_, fun j hj => ?_, fun hl => k.low (h.low hl)⟩
  · have hlt := (Array.getElem?_eq_some_iff.1 hc).1
    refine k.keep j cs t fr (h.keep j cs t fr hc h1 h2 h3) h1 h2 (fun hr => ?_)
    rcases h.row j hr with h4 | h4
    · exact h3 h4
    · omega
  · rcases k.row j hj with h1 | h1
    · exact h.row j h1
    · exact .inr (Nat.le_trans h.size h1)

theorem rowof_below {gr : Nat} {W W' : World} (hb : Below W.heap.size W W') (hg : gr < W.heap.size) (k : Nat) : RowOf gr W' k ↔ RowOf gr W k := by
  unfold RowOf
  rw [hb.cell (p := ⟨gr, 0, none⟩) hg]

theorem Kr.of_below {gr gs : Nat} {W W' : World} (hb : Below W.heap.size W W') (hg : gr < W.heap.size) : Kr gr gs W W' := by
  refine ⟨hb.size, fun j cs t fr hc _ _ _ => ?_, fun j hj => .inl ((rowof_below hb hg j).1 hj), fun hl k hk => Nat.lt_of_lt_of_le (hl k ((rowof_below hb hg k).1 hk)) hb.size⟩
  rw [hb.block j (Array.getElem?_eq_some_iff.1 hc).1]
  exact hc

theorem Kr.cell {gr gs : Nat} {W W' : World} (h : Kr gr gs W W') {ad : Addr} {v : Value} (hc : W.cell? ad = some v) (h1 : ad.block ≠ gr) (h2 : ad.block ≠ gs) (h3 : ¬ RowOf gr W ad.block) : W'.cell? ad = some v := by
  obtain ⟨cs, t, fr, hh⟩ := cells_of hc
  have := h.keep _ cs t fr hh h1 h2 h3
  unfold World.cell? at hc ⊢
  rw [hh] at hc
  rw [this]
  exact hc

theorem Kr.at {gr gs : Nat} {W W' : World} (h : Kr gr gs W W') {a : Option Addr} {l : List UInt8} (hat : At W a l) (hn : l ≠ [] → ∀ ad, a = some ad → ad.block ≠ gr ∧ ad.block ≠ gs ∧ ¬ RowOf gr W ad.block) : At W' a l := by
  intro hne
  obtain ⟨b, o, rfl, hc⟩ := hat hne
  obtain ⟨h1, h2, h3⟩ := hn hne _ rfl
  exact ⟨b, o, rfl, fun i hi => h.cell (hc i hi) h1 h2 h3⟩

theorem end_more {l : List UInt8} {p mb : Nat} (h : EntAt l p mb) : p + 17 ≤ endAt l p ∧ endAt l p ≤ l.length := by
  have h1 := h.nine
  have h2 := h.sum4
  unfold endAt
  omega

set_option maxRecDepth 100000 in
set_option maxHeartbeats 4000000 in
theorem iter_in (n₀ n len cap gf gx gr gs : Nat) (a : Option Addr) (l : List UInt8) (first : Int) (w : World) (hl : l.length = len) (hlen : len ≤ 140737488355328) (hcap : len ≤ cap) (hat : At w a l)
    (cf : w.cell? ⟨gf, 0, none⟩ = some (.int .i64 first)) (cx : w.cell? ⟨gx, 0, none⟩ = some (.slice a len cap)) (hx1 : gx ≠ gr) (hx2 : gx ≠ gs) (hl1 : l ≠ [] → ∀ ad, a = some ad → ad.block ≠ gr ∧ ad.block ≠ gs) (hr0 : ∀ k, ¬ RowOf gr w k) (hgr : gr < w.heap.size) (hgs : gs < w.heap.size) (hn0 : n₀ ≤ w.heap.size) :
    SeqR Fence.wide n Try.prog 84 #[.pointer (some ⟨gf, 0, none⟩), .pointer (some ⟨gx, 0, none⟩)] (RX.encs l) (RX.ok n₀ l) (Kr gr gs) (fun xs => xs.map (·.p) = poss l (len + 1) 0 first) (len + 1) w := by
  intro l0 J W hbW hJ hY h0
  have hkW : Kr gr gs w W := Kr.of_below hbW hgr
  have hgW : gr < W.heap.size := Nat.lt_of_lt_of_le hgr hbW.size
  have cfW : W.cell? ⟨gf, 0, none⟩ = some (.int .i64 first) := by rw [hbW.cell (p := ⟨gf, 0, none⟩) (World.block_lt_of_cell? _ _ cf)]; exact cf
  clear hbW
  refine callsIn_of_wp Try.func84 rfl trivial ?_ rfl
  simp only [Try.ntmps84, List.size_toArray, List.length_cons, List.length_nil, Nat.reduceAdd, Nat.reduceSub, Array.replicate_succ, Array.replicate_zero, List.push_toArray, List.append_toArray, List.nil_append, List.cons_append]
  replace hposs := hid hr0
  clear hposs
  gi_wp2
  gi_region
  all_goals
    gi_wp2
    have hkd : Kr gr gs w W.drew := hkW.trans (Kr.of_below (drew_below W) hgW)
    have hJd : J [] W.drew := hJ [] W W.drew none h0 (grow_none (drew_below W)) (fun r e => by cases e)
    clear cfW
    gi_loopw [4, 5] (fun av nv wr => ∃ (pre : List RX) (p f : Nat) (nx : Int), av = .int .i64 p ∧ nv = .int .i64 nx ∧ p ≤ len ∧ pre.length + f = len + 1 ∧ pre.length ≤ p ∧ poss l (len + 1) 0 first = pre.map (·.p) ++ poss l f p nx ∧ J pre wr ∧ Kr gr gs w wr ∧ W.heap.size ≤ wr.heap.size) (fun av _ _ => len + 1 - (intOf av).toNat)
    case atStart => exact ⟨[], 0, len + 1, first, rfl, rfl, Nat.zero_le _, by simp, Nat.zero_le _, rfl, hJd, hkd, Nat.le_refl _⟩
    case round =>
      clear hkd hJd
      obtain ⟨pre, p, f, nx, rfl, rfl, hp, hf, hpl, hposs, hJr, hkr, hsz⟩ := hrel
      have cxr := hkr.cell cx hx1 hx2 (hr0 _)
      have hatr := hkr.at hat (fun hne ad e => ⟨(hl1 hne ad e).1, (hl1 hne ad e).2, hr0 _⟩)
      have hgrr : gr < wr.heap.size := Nat.lt_of_lt_of_le hgW hsz
      have hgsr : gs < wr.heap.size := Nat.lt_of_lt_of_le hgs hkr.size
      have hlow := hkr.low (fun k hk => absurd hk (hr0 k))
      replace hposs := hid hposs
      by_cases hE : EntAt l p 65536
      · have hcall := entat_yes a len cap p 65536 l wr hl hlen (by omega) (by omega) hcap hatr hE
        obtain ⟨he1, he2⟩ := end_more hE
        have hnum := hE.num
        have hl' := hid hl
        clear hl
        obtain ⟨M, hM⟩ : ∃ M, M = numAt l p := ⟨_, rfl⟩
        obtain ⟨SZ, hSZ⟩ : ∃ SZ, SZ = sizeAt l p - 9 := ⟨_, rfl⟩
        rw [← hM] at hnum hcall
        rw [← hSZ] at hcall
        obtain ⟨EN, hEN⟩ : ∃ EN, EN = endAt l p := ⟨_, rfl⟩
        rw [← hEN] at hcall he1 he2
        replace hEN := hid hEN
        replace hM := hid hM
        replace hSZ := hid hSZ
        gi_wp2_with fail
        refine ⟨trivial, (fun h => by cases h), (callsIn_wide.2 hcall).mono ?_⟩
        rintro e w1 ⟨ba, bc, rfl, ho1, hb1⟩
        obtain ⟨kd, hkd⟩ : ∃ kd, kd = kindAt l p := ⟨_, rfl⟩
        rw [← hkd]
        replace hkd := hid hkd
        have bl := below_lit w1 (.cells #[.int .i64 (M : Int), .int .u8 (kd.toNat : Int), .slice ba SZ bc] 27)
        have hJ1 := hJ pre wr w1 none hJr (grow_none hb1) (fun r e => by cases e)
        have hJ2 := hJ pre w1 _ none hJ1 (grow_none bl) (fun r e => by cases e)
        have hB2 := RBlk.new w1 (.int .i64 (M : Int)) (.int .u8 (kd.toNat : Int)) (.slice ba SZ bc)
        have hb12 := bnext hb1 bl
        by_cases hst : Stands l p nx
        · have hs2 := hst.2.1
          have hs3 := hst.2.2
          rw [← hM.out] at hs2 hs3
          rw [hl'.out] at he2
          have e0 : ((M : Int) == 0) = false := beq_eq_false_iff_ne.2 (by omega)
          obtain ⟨f', rfl⟩ : ∃ f', f = f' + 1 := ⟨f - 1, by omega⟩
          have hpo : poss l (f' + 1) p nx = p :: poss l f' EN ((M : Int) + 1) := by rw [poss_yes _ _ _ _ hst, ← hEN.out, ← hM.out]
          have hnext : poss l (len + 1) 0 first = (pre ++ [(⟨p, ba, bc⟩ : RX)]).map (·.p) ++ poss l f' EN ((M : Int) + 1) := by
            rw [hposs.out, hpo, List.map_append, List.append_assoc]
            rfl
          replace hpo := hid hpo
          replace hnext := hid hnext
          have hRx : RX.ok n₀ l ⟨p, ba, bc⟩ (w1.alloc (.cells #[.int .i64 (M : Int), .int .u8 (kd.toNat : Int), .slice ba SZ bc] 27)) := ⟨hE, by rw [← hSZ.out]; exact (ho1.below bl).le (Nat.le_trans hn0 hkr.size)⟩
          obtain ⟨fn, tmps, assign, body, hy, hR⟩ := hY pre ⟨p, ba, bc⟩ _ hJ2 hRx (by omega)
          unfold RX.encs at hy
          dsimp only at hy
          rw [← hM.out, ← hkd.out, ← hSZ.out, ← hEN.out] at hy
          have hrow2 : ¬ RowOf gr (w1.alloc (.cells #[.int .i64 (M : Int), .int .u8 (kd.toNat : Int), .slice ba SZ bc] 27)) w1.heap.size := fun h => by
            have := hlow _ ((rowof_below hb12 hgrr _).1 h)
            have := hb1.size
            omega
          have hz1 := hb1.size
          obtain ⟨w2, hw2⟩ : ∃ w2, w2 = w1.alloc (.cells #[.int .i64 (M : Int), .int .u8 (kd.toNat : Int), .slice ba SZ bc] 27) := ⟨_, rfl⟩
          have hk2 : Kr gr gs w w2 := by rw [hw2]; exact hkr.trans (Kr.of_below hb12 hgrr)
          have hwz : wr.heap.size ≤ w2.heap.size := by rw [hw2]; exact hb12.size
          rw [← hw2] at hB2 hrow2 hR
          have hnx : (nx != 0) = false ∨ ((nx != 0) = true ∧ ((M : Int) != nx) = false) := by
            by_cases h : nx = 0
            · exact .inl (by simp [h])
            · refine .inr ⟨by simpa using h, ?_⟩
              rcases hs3 with h1 | h1
              · exact absurd h1 h
              · simp [h1]
          rcases hnx with e1 | ⟨e1, e2⟩
          all_goals
            gi_wp2
            rw [← hw2]
            refine ⟨(fun h => by cases h), hR.mono ?_⟩
            rintro e W3 ⟨rfl, hJ3, hk3⟩
            have hB3 : RBlk W3 w1.heap.size (.int .i64 (M : Int)) (.int .u8 (kd.toNat : Int)) (.slice ba SZ bc) := hk3.keep _ _ _ _ hB2 (by omega) (by omega) hrow2
            have c0 := hB3.cell0
            have c1 := hB3.cell1
            have c2 := hB3.cell2
            have hk4 := (hk2.trans hk3).trans (Kr.of_below (drew_below W3) (Nat.lt_of_lt_of_le hgrr (Nat.le_trans hwz hk3.size)))
            have hJ4 := hJ _ W3 W3.drew none hJ3 (grow_none (drew_below W3)) (fun r e => by cases e)
            have hz4 : W.heap.size ≤ W3.drew.heap.size := Nat.le_trans hsz (Nat.le_trans hwz hk3.size)
            replace hw2 := hid hw2
            replace hk4 := hid hk4
            replace hJ4 := hid hJ4
            have hlp : (pre ++ [(⟨p, ba, bc⟩ : RX)]).length = pre.length + 1 := by simp
            replace hlp := hid hlp
            clear hy hR hJ3 hB2 hB3
            gi_wp2
            gi_region
            all_goals
              gi_wp2
              go_roundw
              case rel => exact ⟨pre ++ [(⟨p, ba, bc⟩ : RX)], EN, f', (M : Int) + 1, rfl, rfl, by omega, by rw [hlp.out]; omega, by rw [hlp.out]; omega, hnext.out, hJ4.out, hk4.out, hz4⟩
              case measure => simp [intOf]; omega
        · have hpo : poss l f p nx = [] := poss_no _ _ _ _ hst
          have hfin : pre.map (·.p) = poss l (len + 1) 0 first := by rw [hposs.out, hpo, List.append_nil]
          replace hpo := hid hpo
          replace hfin := hid hfin
          have hno : M = 0 ∨ (nx ≠ 0 ∧ (M : Int) ≠ nx) := by
            rcases Nat.eq_zero_or_pos M with h | h
            · exact .inl h
            · refine .inr ⟨fun e => hst ⟨hE, by rw [← hM.out]; omega, .inl e⟩, fun e => hst ⟨hE, by rw [← hM.out]; omega, .inr (by rw [← hM.out]; exact e)⟩⟩
          rcases hno with h0M | ⟨h1, h2⟩
          · have e0 : ((M : Int) == 0) = true := by rw [h0M]; rfl
            replace h0M := hid h0M
            gi_wp2
            refine bodyPost_ret (results_none rfl _ _ _) rfl ?_
            exact ⟨⟨_, rfl⟩, pre, hfin.out, hJ2⟩
          · have e1 : (nx != 0) = true := by simpa using h1
            have e2 : ((M : Int) != nx) = true := by simpa using h2
            by_cases h0M : M = 0
            · have e0 : ((M : Int) == 0) = true := by rw [h0M]; rfl
              replace h0M := hid h0M
              gi_wp2
              refine bodyPost_ret (results_none rfl _ _ _) rfl ?_
              exact ⟨⟨_, rfl⟩, pre, hfin.out, hJ2⟩
            · have e0 : ((M : Int) == 0) = false := beq_eq_false_iff_ne.2 (by omega)
              gi_wp2
              refine bodyPost_ret (results_none rfl _ _ _) rfl ?_
              exact ⟨⟨_, rfl⟩, pre, hfin.out, hJ2⟩
      · have hcall := entat_no a len cap p 65536 l wr hl hlen (by omega) (by omega) hcap hatr hE
        have hst : poss l f p nx = [] := poss_no _ _ _ _ (fun h => hE h.1)
        have hfin : pre.map (·.p) = poss l (len + 1) 0 first := by rw [hposs.out, hst, List.append_nil]
        replace hst := hid hst
        replace hfin := hid hfin
        have hl' := hid hl
        clear hl
        gi_wp2_with fail
        refine ⟨trivial, (fun h => by cases h), (callsIn_wide.2 hcall).mono ?_⟩
        rintro e w1 ⟨rfl, hb1⟩
        have hJ1 := hJ pre wr w1 none hJr (grow_none hb1) (fun r e => by cases e)
        have hJ2 := hJ pre w1 _ none hJ1 (grow_none (below_lit w1 (.cells #[.int .i64 0, .int .u8 0, .slice none 0 0] 27))) (fun r e => by cases e)
        gi_wp2
        refine bodyPost_ret (results_none rfl _ _ _) rfl ?_
        exact ⟨⟨_, rfl⟩, pre, hfin.out, hJ2⟩
end Go.Proofs.Ytcbgnodmamcmkaa
