/- What first answers: what the bytes say of the frame that they begin. -/
import Derived.Test.YtdhafnmahpafaaaKeep
import Derived.Deep.RegionWith
namespace Go.Proofs.Ytdhafnmahpafaaa
open Go.RowKit

theorem hid {p : Prop} (h : p) : Hid p := h

theorem fresh_sl (a : Option Addr) (cap len : Nat) (l : List UInt8) (w : World) (hl : l.length = len) (hlen : len ≤ 140737489000000) (hat : At w a l) :
    Calls Try.prog 32 #[.slice a len cap] w fun e w' => ∃ b c, e = .returned (.slice b len c) ∧ Own w' w.heap.size (.slice b len c) l ∧ Below w.heap.size w w' := by
  refine (fresh_any a cap len l w hl hlen hat).mono ?_
  rintro e w' ⟨v, rfl, ho, hb⟩
  obtain ⟨b, c, rfl, _, _⟩ := ho.form
  rw [hl] at ho ⊢
  exact ⟨b, c, rfl, ho, hb⟩

theorem rd4_yes (l : List UInt8) (p : Int) (q : Nat) (hq : p = q) (h : q + 4 ≤ l.length) : rdB l p 4 = true ∧ rdV l p 4 = (numOf ((l.drop q).take 4) : Int) := by
  subst hq
  constructor
  · unfold rdB; exact decide_eq_true (by omega)
  · unfold rdV
    rw [if_pos (by omega)]
    simp

theorem rd4_no (l : List UInt8) (p : Int) (q : Nat) (hq : p = q) (h : l.length < q + 4) : rdB l p 4 = false := by
  subst hq; unfold rdB; exact decide_eq_false (by omega)

/-- A frame's block. -/
def FBlk (w : World) (g : Nat) (k : Int) (b : Value) : Prop := w.heap[g]? = some (.cells #[.int .u8 k, b] 27 (0, 0))

theorem FBlk.c0 {w : World} {g : Nat} {k : Int} {b : Value} (h : FBlk w g k b) : w.cell? ⟨g, 0, none⟩ = some (.int .u8 k) := by unfold FBlk at h; simp [World.cell?, h]
theorem FBlk.c1 {w : World} {g : Nat} {k : Int} {b : Value} (h : FBlk w g k b) : w.cell? ⟨g, 1, none⟩ = some b := by unfold FBlk at h; simp [World.cell?, h]
theorem FBlk.free {w : World} {g : Nat} {k : Int} {b : Value} (h : FBlk w g k b) (i : Nat) : w.frozen? ⟨g, i, none⟩ = false := by unfold FBlk at h; simp [World.frozen?, h]
theorem FBlk.lt {w : World} {g : Nat} {k : Int} {b : Value} (h : FBlk w g k b) : g < w.heap.size := (Array.getElem?_eq_some_iff.1 h).1
theorem FBlk.below {w w' : World} {g : Nat} {k : Int} {b : Value} (h : FBlk w g k b) (hb : Below w.heap.size w w') : FBlk w' g k b := by
  unfold FBlk; rw [hb.block g h.lt]; exact h
theorem FBlk.new (w : World) (k : Int) (b : Value) : FBlk (w.alloc (.cells #[.int .u8 k, b] 27)) w.heap.size k b := heap_alloc_new w _
theorem FBlk.set0 {w : World} {g : Nat} {k : Int} {b : Value} (h : FBlk w g k b) (k' : Int) : FBlk (w.setCell ⟨g, 0, none⟩ (.int .u8 k')) g k' b := by
  unfold FBlk at *
  rw [setCell_eq_setRow w g 0 _ 27 (0, 0) _ h, setRow_heap w g _ _ 27 _ h]
  simp
theorem FBlk.set1 {w : World} {g : Nat} {k : Int} {b : Value} (h : FBlk w g k b) (b' : Value) : FBlk (w.setCell ⟨g, 1, none⟩ b') g k b' := by
  unfold FBlk at *
  rw [setCell_eq_setRow w g 1 _ 27 (0, 0) _ h, setRow_heap w g _ _ 27 _ h]
  simp

theorem info27 : (Try.prog.info? 27).map (·.size) = some 2 := by kernel_rfl

/-- Three results, the first one a frame in a block. -/
theorem results_frame3 {fn : Func} {p u v : Tmp} (h : fn.results = #[.cell p 27, .tmp u, .tmp v]) (tmps : Array Value) (w : World) (g : Nat) (k : Int) (b : Value)
    (hp : tmps.getD p undef = .pointer (some ⟨g, 0, none⟩)) (hg : FBlk w g k b) :
    (results fn tmps).run Try.prog w = .ok (.tuple #[.agg #[.int .u8 k, b], tmps.getD u undef, tmps.getD v undef]) w := by
  have hp' : tmps[p]?.getD undef = .pointer (some ⟨g, 0, none⟩) := by simpa using hp
  simp [results, h, hp', asAddr, run_loadVar_row (P := Try.prog) w g 27 27 _ (0, 0) _ hg Try.underlying27 rfl info27]

theorem ret_three {v u : Value} {a b : Int} (h : a = b) : Ending.returned (.tuple #[v, .int .i64 a, u]) = .returned (.tuple #[v, .int .i64 b, u]) := by rw [h]

theorem undrew {w w' : World} (h : Below w.drew.heap.size w.drew w') : Below w.heap.size w w' := ⟨h.os, h.tape, h.output, h.size, h.block⟩

theorem first_end {w w1 w2 : World} {g : Nat} {v : Value} {body : List UInt8} (x y : Value) (hb1 : Below w.heap.size w w1) (hg : w.heap.size ≤ g) (hg1 : g < w1.heap.size) (hb3 : Below w1.drew.heap.size w1.drew w2) (ho : Own w2 w1.drew.heap.size v body) :
    Own ((w2.setCell ⟨g, 0, none⟩ x).setCell ⟨g, 1, none⟩ y) w.heap.size v body ∧ Below w.heap.size w ((w2.setCell ⟨g, 0, none⟩ x).setCell ⟨g, 1, none⟩ y) := by
  constructor
  · have hk : Kp (fun k => k = g) w2 ((w2.setCell ⟨g, 0, none⟩ x).setCell ⟨g, 1, none⟩ y) := Kp.setCell (S := fun k => k = g) (p := ⟨g, 1, none⟩) (Kp.setCell (S := fun k => k = g) (p := ⟨g, 0, none⟩) (Kp.refl _ _) rfl _) rfl _
    refine Own.kp (ho.le hb1.size) hk ?_
    intro k' hk' e'
    have h1 : w1.heap.size ≤ k' := (ho.lt k' hk').1
    omega
  · exact ((bnext hb1 (undrew hb3)).setCell (p := ⟨g, 0, none⟩) hg _).setCell (p := ⟨g, 1, none⟩) hg _

/-- What first answers. -/
def FirstPost (w w' : World) (l : List UInt8) (e : Ending) : Prop :=
  match headOf l with
  | none => e = .returned (.tuple #[.agg #[.int .u8 0, .slice none 0 0], .int .i64 0, .int .i64 0])
  | some none => e = .returned (.tuple #[.agg #[.int .u8 0, .slice none 0 0], .int .i64 0, .int .i64 2])
  | some (some (k, body, size)) => ∃ vb, e = .returned (.tuple #[.agg #[.int .u8 (k.toNat : Int), vb], .int .i64 (size : Int), .int .i64 1]) ∧ Own w' w.heap.size vb body

theorem FirstPost.cut {w w' : World} {l : List UInt8} {e : Ending} (h : headOf l = none) (he : e = .returned (.tuple #[.agg #[.int .u8 0, .slice none 0 0], .int .i64 0, .int .i64 0])) : FirstPost w w' l e := by
  unfold FirstPost; rw [h]; exact he
theorem FirstPost.wrong {w w' : World} {l : List UInt8} {e : Ending} (h : headOf l = some none) (he : e = .returned (.tuple #[.agg #[.int .u8 0, .slice none 0 0], .int .i64 0, .int .i64 2])) : FirstPost w w' l e := by
  unfold FirstPost; rw [h]; exact he
theorem FirstPost.whole {w w' : World} {l body : List UInt8} {k : UInt8} {size : Nat} {vb : Value} {e : Ending} (h : headOf l = some (some (k, body, size))) (he : e = .returned (.tuple #[.agg #[.int .u8 (k.toNat : Int), vb], .int .i64 (size : Int), .int .i64 1])) (ho : Own w' w.heap.size vb body) : FirstPost w w' l e := by
  unfold FirstPost; rw [h]; exact ⟨vb, he, ho⟩

set_option maxRecDepth 100000 in
set_option maxHeartbeats 1000000 in
theorem first_any (a : Option Addr) (cap : Nat) (l : List UInt8) (w : World) (hlen : l.length ≤ 140737489000000) (hcap : l.length ≤ cap) (hat : At w a l) :
    Calls Try.prog 28 #[.slice a l.length cap] w fun e w' => FirstPost w w' l e ∧ Below w.heap.size w w' := by
  by_cases h4 : l.length < 4
  · have hb := rd4_no l 0 0 rfl (by omega)
    have hh : headOf l = none := by unfold headOf; rw [if_pos h4]
    go_enter Try.func28, Try.ntmps28
    go_wp2_with fail
    refine (u32_any a cap l.length l 0 _ rfl (by omega) (hat.below (below_lit _ _))).mono ?_
    rintro e w1 ⟨rfl, rfl⟩
    rw [hb]
    go_wp2
    (try simp only [Exit.inBlock, Exit.then]); refine bodyPost_ret (results_frame3 rfl _ _ w.heap.size 0 (.slice none 0 0) rfl (FBlk.new w _ _)) rfl ?_
    exact ⟨FirstPost.cut hh rfl, below_lit w _⟩
  · obtain ⟨n, hn⟩ : ∃ n, n = numOf (l.take 4) := ⟨_, rfl⟩
    obtain ⟨hb, hv⟩ := rd4_yes l 0 0 rfl (by omega)
    rw [List.drop_zero, ← hn] at hv
    have hn32 : n < 4294967296 := by
      rw [hn]
      have := numOf_lt (l.take 4)
      rw [List.length_take, Nat.min_eq_left (by omega)] at this
      omega
    by_cases h0 : n = 0 ∨ 65536 < n
    · have hh : headOf l = some none := by unfold headOf; rw [← hn, if_neg h4, if_pos h0]
      clear hn
      rcases h0 with rfl | h0
      · go_enter Try.func28, Try.ntmps28
        go_wp2_with fail
        refine (u32_any a cap l.length l 0 _ rfl (by omega) (hat.below (below_lit _ _))).mono ?_
        rintro e w1 ⟨rfl, rfl⟩
        rw [hb, hv]
        go_wp2
        (try simp only [Exit.inBlock, Exit.then]); refine bodyPost_ret (results_frame3 rfl _ _ w.heap.size 0 (.slice none 0 0) rfl (FBlk.new w _ _)) rfl ?_
        exact ⟨FirstPost.wrong hh rfl, below_lit w _⟩
      · have hd1 : ((n : Int) == 0) = false := beq_eq_false_iff_ne.2 (by omega)
        have hd2 : decide ((65536 : Int) < n) = true := decide_eq_true (by omega)
        go_enter Try.func28, Try.ntmps28
        go_wp2_with fail
        refine (u32_any a cap l.length l 0 _ rfl (by omega) (hat.below (below_lit _ _))).mono ?_
        rintro e w1 ⟨rfl, rfl⟩
        rw [hb, hv]
        go_wp2
        (try simp only [Exit.inBlock, Exit.then]); refine bodyPost_ret (results_frame3 rfl _ _ w.heap.size 0 (.slice none 0 0) rfl (FBlk.new w _ _)) rfl ?_
        exact ⟨FirstPost.wrong hh rfl, below_lit w _⟩
    · have hd1 : ((n : Int) == 0) = false := beq_eq_false_iff_ne.2 (by omega)
      have hd2 : decide ((65536 : Int) < n) = false := decide_eq_false (by omega)
      by_cases h8 : l.length < n + 8
      · have hh : headOf l = none := by unfold headOf; rw [← hn, if_neg h4, if_neg h0, if_pos h8]
        have hb2 := rd4_no l (4 + (n : Int)) (4 + n) (by simp) (by omega)
        clear hn
        go_enter Try.func28, Try.ntmps28
        go_wp2_with fail
        refine (u32_any a cap l.length l 0 _ rfl (by omega) (hat.below (below_lit _ _))).mono ?_
        rintro e w1 ⟨rfl, rfl⟩
        rw [hb, hv]
        go_wp2_with fail
        refine (u32_any a cap l.length l (4 + (n : Int)) _ rfl (by omega) (hat.below (below_lit _ _))).mono ?_
        rintro e w1 ⟨rfl, rfl⟩
        rw [hb2]
        go_wp2
        (try simp only [Exit.inBlock, Exit.then]); refine bodyPost_ret (results_frame3 rfl _ _ w.heap.size 0 (.slice none 0 0) rfl (FBlk.new w _ _)) rfl ?_
        exact ⟨FirstPost.cut hh rfl, below_lit w _⟩
      · obtain ⟨b, o, rfl, hc⟩ := hat (by intro e; subst e; simp at h4)
        obtain ⟨hb2, hv2⟩ := rd4_yes l (4 + (n : Int)) (4 + n) (by simp) (by omega)
        by_cases hs : numOf ((l.drop (4 + n)).take 4) = crcOf ((l.drop 4).take n)
        · have hh : headOf l = some (some (l.getD 4 0, (l.drop 5).take (n - 1), n + 8)) := by unfold headOf; rw [← hn, if_neg h4, if_neg h0, if_neg h8, if_pos hs]
          clear hn
          have hw4 := (At.window hc 4 n).below (below_lit w (.cells #[.int .u8 0, .slice none 0 0] 27))
          have hl4 : ((l.drop 4).take n).length = n := by rw [List.length_take, List.length_drop]; omega
          have hw5 := (At.window hc 5 (n - 1)).below (below_lit w (.cells #[.int .u8 0, .slice none 0 0] 27))
          have hl5 : ((l.drop 5).take (n - 1)).length = n - 1 := by rw [List.length_take, List.length_drop]; omega
          have hk := hc 4 (by omega)
          have hk1 : l.getD 4 0 = l[4]'(by omega) := by simp [List.getD, show 4 < l.length by omega]
          rw [hk1] at hh
          generalize l[4]'(by omega) = k at *
          generalize (l.drop 5).take (n - 1) = body at *
          generalize (l.drop 4).take n = m at *
          generalize numOf ((l.drop (4 + n)).take 4) = s at *
          have hne : ((s : Int) != (crcOf m : Int)) = false := by rw [bne_eq_false_iff_eq, hs]
          go_enter Try.func28, Try.ntmps28
          go_wp2_with fail
          refine (u32_any _ cap l.length l 0 _ rfl (by omega) (hat.below (below_lit _ _))).mono ?_
          rintro e w1 ⟨rfl, rfl⟩
          rw [hb, hv]
          go_wp2_with fail
          refine (u32_any _ cap l.length l (4 + (n : Int)) _ rfl (by omega) (hat.below (below_lit _ _))).mono ?_
          rintro e w1 ⟨rfl, rfl⟩
          rw [hb2, hv2]
          go_wp2_with fail
          refine (crc_any n _ _ m _ hl4 (by omega) hw4).mono ?_
          rintro e w1 ⟨rfl, hb1⟩
          have hf := (FBlk.new w 0 (.slice none 0 0)).below hb1
          replace hw5 := hw5.below hb1
          have hk' : w1.cell? ⟨b, o + 4, none⟩ = some (.int .u8 (k.toNat : Int)) := by
            rw [(bnext (below_lit w _) hb1).cell (p := ⟨b, o + 4, none⟩) (World.block_lt_of_cell? w _ hk)]; exact hk
          replace hb1 := bnext (below_lit w _) hb1
          obtain ⟨g, hg⟩ : ∃ g, g = w.heap.size := ⟨_, rfl⟩
          rw [← hg] at hf
          rw [← hg]
          replace hg := hid hg
          have hw5' : At w1.drew (some ⟨b, o + 4 + 1, none⟩) body := hw5
          have hk'' : w1.drew.cell? ⟨b, o + 4, none⟩ = some (.int .u8 (k.toNat : Int)) := hk'
          have hf' : FBlk w1.drew g 0 (.slice none 0 0) := hf
          go_wp2_with fail
          go_region_with (go_at_call 32; refine (fresh_sl _ _ (n - 1) body _ hl5 (by omega) hw5').mono ?_; rintro e w2 ⟨bb, cb, rfl, ho, hb3⟩; have hff := hf'.below hb3; have hff0 := hff.free 0; have hff1 := hff.free 1; have hff2 := hff.c0; have hff3 := hff.c1; have hk2 : w2.cell? ⟨b, o + 4, none⟩ = some (.int .u8 (k.toNat : Int)) := (hb3.cell (p := ⟨b, o + 4, none⟩) (World.block_lt_of_cell? w1.drew _ hk'')).trans hk'')
          all_goals
            go_wp2_with fail
            (try simp only [Exit.inBlock, Exit.then])
            refine bodyPost_ret (results_frame3 rfl _ _ g _ _ rfl ((hff.set0 _).set1 _)) rfl ?_
            have hend := first_end (.int .u8 (k.toNat : Int)) (.slice bb (n - 1) cb) hb1 (Nat.le_of_eq hg.out.symm) hf.lt hb3 ho
            exact ⟨FirstPost.whole hh (ret_three (by omega)) hend.1, hend.2⟩
        · have hh : headOf l = some none := by unfold headOf; rw [← hn, if_neg h4, if_neg h0, if_neg h8, if_neg hs]
          clear hn
          have hw4 := (At.window hc 4 n).below (below_lit w (.cells #[.int .u8 0, .slice none 0 0] 27))
          have hl4 : ((l.drop 4).take n).length = n := by rw [List.length_take, List.length_drop]; omega
          generalize (l.drop 4).take n = m at *
          generalize numOf ((l.drop (4 + n)).take 4) = s at *
          go_enter Try.func28, Try.ntmps28
          go_wp2_with fail
          refine (u32_any _ cap l.length l 0 _ rfl (by omega) (hat.below (below_lit _ _))).mono ?_
          rintro e w1 ⟨rfl, rfl⟩
          rw [hb, hv]
          go_wp2_with fail
          refine (u32_any _ cap l.length l (4 + (n : Int)) _ rfl (by omega) (hat.below (below_lit _ _))).mono ?_
          rintro e w1 ⟨rfl, rfl⟩
          rw [hb2, hv2]
          go_wp2_with fail
          refine (crc_any n _ _ m _ hl4 (by omega) hw4).mono ?_
          rintro e w1 ⟨rfl, hb1⟩
          have hf := (FBlk.new w 0 (.slice none 0 0)).below hb1
          replace hb1 := bnext (below_lit w _) hb1
          obtain ⟨g, hg⟩ : ∃ g, g = w.heap.size := ⟨_, rfl⟩
          rw [← hg] at hf
          rw [← hg]
          replace hg := hid hg
          have hne : ((s : Int) != (crcOf m : Int)) = true := by rw [bne_iff_ne]; omega
          have hf0 := hf.free 0
          have hf1 := hf.free 1
          have hf2 := hf.c0
          have hf3 := hf.c1
          go_wp2
          (try simp only [Exit.inBlock, Exit.then]); refine bodyPost_ret (results_frame3 rfl _ _ g 0 (.slice none 0 0) rfl ((hf.set0 _).set1 _)) rfl ?_
          exact ⟨FirstPost.wrong hh rfl, (hb1.setCell (p := ⟨g, 0, none⟩) (Nat.le_of_eq hg.out.symm) _).setCell (p := ⟨g, 1, none⟩) (Nat.le_of_eq hg.out.symm) _⟩
end Go.Proofs.Ytdhafnmahpafaaa
