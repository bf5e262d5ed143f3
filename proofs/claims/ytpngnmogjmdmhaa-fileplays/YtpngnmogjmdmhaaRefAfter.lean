/- After of the document's disk. -/
import Derived.Test.YtpngnmogjmdmhaaRefAft12
import Derived.Test.YtpngnmogjmdmhaaSynBase
import Derived.Laws.Strings2
import Derived.Deep.RegionHeld
import Derived.Deep.CutBlock
import Derived.Deep.Cut
namespace Go.Proofs.Ytpngnmogjmdmhaa
open Go.RowKit
set_option linter.unusedVariables false

theorem Kp.more {S T : Nat → Prop} {w w' : World} (h : Kp S w w') (hs : ∀ k, S k → T k) : Kp T w w' := ⟨h.os, h.tape, h.output, h.size, fun k h1 h2 => h.block k h1 (fun e => h2 (hs k e))⟩

def stA (ops : List Ch) (dur : Fs) (keep torn j : Nat) : Fs := if j ≤ keep then runs (ops.take j) dur else runs (kept ops keep torn) dur

theorem stA_step (ops : List Ch) (dur : Fs) (keep torn j : Nat) (hj : j < ops.length) (hk : j < keep) : stA ops dur keep torn (j + 1) = apply ops[j] (stA ops dur keep torn j) := by
  unfold stA
  rw [if_pos (by omega), if_pos (by omega), List.take_succ_eq_append_getElem hj, runs_append]
  rfl
theorem stA_torn (ops : List Ch) (dur : Fs) (keep torn : Nat) (hj : keep < ops.length) (ha : (ops[keep]).app = true) : stA ops dur keep torn (keep + 1) = apply { ops[keep] with data := (ops[keep]).data.take torn } (stA ops dur keep torn keep) := by
  unfold stA
  rw [if_neg (by omega), if_pos (Nat.le_refl _)]
  unfold kept
  rw [List.drop_eq_getElem_cons hj]
  simp only [ha, if_true, runs_append]
  rfl
theorem stA_cut (ops : List Ch) (dur : Fs) (keep torn : Nat) (hj : keep < ops.length) (ha : (ops[keep]).app = false) : stA ops dur keep torn keep = runs (kept ops keep torn) dur := by
  unfold stA
  rw [if_pos (Nat.le_refl _)]
  unfold kept
  rw [List.drop_eq_getElem_cons hj]
  simp [ha]
theorem stA_end (ops : List Ch) (dur : Fs) (keep torn j : Nat) (h : j = ops.length ∨ keep < j) : stA ops dur keep torn j = runs (kept ops keep torn) dur := by
  unfold stA
  rcases Nat.lt_or_ge keep j with h1 | h1
  · rw [if_neg (by omega)]
  · rw [if_pos h1]
    rcases h with h | h
    · have e : kept ops keep torn = ops := by
        unfold kept
        rw [List.drop_eq_nil_of_le (by omega)]
      rw [e, h, List.take_length]
    · omega

theorem okay_on {ops : List Ch} {g : Fs} (h : Okay ops g) : ∀ (j : Nat) (hj : j < ops.length), ((ops[j]).on (runs (ops.take j) g (ops[j]).file)).length ≤ 1048576 := by
  induction ops generalizing g with
  | nil => intro j hj; simp at hj
  | cons c r ih =>
    intro j hj
    cases j with
    | zero => exact h.1.2.2
    | succ j => exact ih h.2 j (by simpa using hj)

theorem okay_left {ops : List Ch} {g : Fs} (h : Okay ops g) : ∀ (j : Nat) (hj : j < ops.length), (ops[j]).app = false → (ops[j]).left ≤ (runs (ops.take j) g (ops[j]).file).length := by
  induction ops generalizing g with
  | nil => intro j hj; simp at hj
  | cons c r ih =>
    intro j hj ha
    cases j with
    | zero => exact h.1.2.1 ha
    | succ j => exact ih h.2 j (by simpa using hj) ha

theorem put_file {w2 wr w' : World} {g : Nat} {T7 : Nat → Prop} {s : Nat → Value} {f : Fs} (hg : T7 g) (hS : SBlk wr g s) (hF : Fls wr T7 s f) (hkp : Kp (fun b => b = g) w2 wr) (hb : Below wr.heap.size wr w') (F : Nat) (hF3 : F < 3) (a : Option Addr) (n c : Nat) (l : List UInt8) (hn : l.length = n) (ho : FA w' T7 a c l) :
    SBlk (w'.setCell ⟨g, F, none⟩ (.slice a n c)) g (updV s F (.slice a n c)) ∧ Fls (w'.setCell ⟨g, F, none⟩ (.slice a n c)) T7 (updV s F (.slice a n c)) (fun i => if i = F then l else f i) ∧ Kp (fun b => b = g) w2 (w'.setCell ⟨g, F, none⟩ (.slice a n c)) := by
  have hk : Kp (fun b => b = g) w' (w'.setCell ⟨g, F, none⟩ (.slice a n c)) := Kp.setCell (S := fun b => b = g) (p := ⟨g, F, none⟩) (Kp.refl _ _) rfl _
  have hk7 : Kp T7 w' (w'.setCell ⟨g, F, none⟩ (.slice a n c)) := hk.more (fun k e => by rw [e]; exact hg)
  refine ⟨(hS.below hb).set F hF3 _, fun i hi => ?_, (hkp.trans (Kp.of_below hb)).trans hk⟩
  by_cases e : i = F
  · subst e
    refine ⟨a, c, ?_, ?_⟩ <;> dsimp only
    · rw [if_pos rfl, hn]; unfold updV; rw [if_pos rfl]
    · rw [if_pos rfl]; exact ho.kp hk7
  · obtain ⟨a2, c2, e2, h2⟩ := hF i hi
    refine ⟨a2, c2, ?_, ?_⟩ <;> dsimp only
    · rw [if_neg e]; unfold updV; rw [if_neg e]; exact e2
    · rw [if_neg e]; exact (h2.below hb).kp hk7

theorem cell_b {w w' : World} {ad : Addr} {v : Value} (hb : Below w.heap.size w w') (h : w.cell? ad = some v) : w'.cell? ad = some v := by
  rw [hb.cell (p := ad) (World.block_lt_of_cell? w _ h)]; exact h

theorem apply_as (c : Ch) (f : Fs) (F : Nat) (hF : c.file = F) : apply c f = fun i => if i = F then c.on (f F) else f i := by
  funext i
  unfold apply
  rw [hF]
  by_cases e : i = F
  · rw [if_pos e, if_pos e, e]
  · rw [if_neg e, if_neg e]

set_option maxRecDepth 100000 in
set_option maxHeartbeats 4000000 in
theorem after_any (T : Nat → Prop) (x : RDx) (d : Dsk) (k t : Nat) (w : World) (hd : RD w T x d) (hi : d.Inv) (hT : ∀ k, T k → k < w.heap.size) (hk : k ≤ 9223372036854775807) (ht : t ≤ 9223372036854775807) (hn : d.ops.length ≤ 1000000) :
    Calls Try.prog 60 #[.agg (x.cells d), .int .i64 (k : Int), .int .i64 (t : Int)] w fun e w' => ∃ a0 c0 a1 c1 a2 c2, e = .returned (.agg #[.slice a0 (runs (kept d.ops k t) d.dur 0).length c0, .slice a1 (runs (kept d.ops k t) d.dur 1).length c1, .slice a2 (runs (kept d.ops k t) d.dur 2).length c2]) ∧
      FA w' T a0 c0 (runs (kept d.ops k t) d.dur 0) ∧ FA w' T a1 c1 (runs (kept d.ops k t) d.dur 1) ∧ FA w' T a2 c2 (runs (kept d.ops k t) d.dur 2) ∧ Below w.heap.size w w' := by
  have hil : x.its.length = d.ops.length := by rw [← hd.ops, List.length_map]
  replace hil := hid hil
  unfold RDx.cells RDx.fv
  go_enter Try.func60, Try.ntmps60
  go_wp2_with fail
  obtain ⟨bx, hbx⟩ : ∃ bx : Obj, bx = .cells #[.slice (x.fa 0) (d.dur 0).length (x.fc 0), .slice (x.fa 1) (d.dur 1).length (x.fc 1), .slice (x.fa 2) (d.dur 2).length (x.fc 2), .slice x.oa x.its.length x.oc, .bool d.down, .int .i64 d.arm, .int .i64 d.fail, .int .i64 d.fault] 40 := ⟨_, rfl⟩
  have bb := bnext (bnext (below_lit w bx) (below_lit (w.alloc bx) (.cells #[.slice none 0 0, .slice none 0 0, .slice none 0 0] 37))) (below_lit ((w.alloc bx).alloc (.cells #[.slice none 0 0, .slice none 0 0, .slice none 0 0] 37)) (.cells #[.slice (x.fa 0) (d.dur 0).length (x.fc 0), .slice (x.fa 1) (d.dur 1).length (x.fc 1), .slice (x.fa 2) (d.dur 2).length (x.fc 2)] 37))
  have hs1 : (w.alloc bx).heap.size = w.heap.size + 1 := by simp
  have hs2 : ((w.alloc bx).alloc (.cells #[.slice none 0 0, .slice none 0 0, .slice none 0 0] 37)).heap.size = w.heap.size + 2 := by simp
  have h7 : SBlk (((w.alloc bx).alloc (.cells #[.slice none 0 0, .slice none 0 0, .slice none 0 0] 37)).alloc (.cells #[.slice (x.fa 0) (d.dur 0).length (x.fc 0), .slice (x.fa 1) (d.dur 1).length (x.fc 1), .slice (x.fa 2) (d.dur 2).length (x.fc 2)] 37)) (w.heap.size + 2) (x.fv d) := by
    rw [← hs2]; exact heap_alloc_new _ _
  have h6 : SBlk (((w.alloc bx).alloc (.cells #[.slice none 0 0, .slice none 0 0, .slice none 0 0] 37)).alloc (.cells #[.slice (x.fa 0) (d.dur 0).length (x.fc 0), .slice (x.fa 1) (d.dur 1).length (x.fc 1), .slice (x.fa 2) (d.dur 2).length (x.fc 2)] 37)) (w.heap.size + 1) (fun _ => .slice none 0 0) := by
    rw [← hs1]; exact SBlk.below (heap_alloc_new _ _) (below_lit _ _)
  have h3 : (((w.alloc bx).alloc (.cells #[.slice none 0 0, .slice none 0 0, .slice none 0 0] 37)).alloc (.cells #[.slice (x.fa 0) (d.dur 0).length (x.fc 0), .slice (x.fa 1) (d.dur 1).length (x.fc 1), .slice (x.fa 2) (d.dur 2).length (x.fc 2)] 37)).cell? ⟨w.heap.size, 3, none⟩ = some (.slice x.oa x.its.length x.oc) := by
    have hh : (w.alloc bx).heap[w.heap.size]? = some bx := heap_alloc_new w bx
    have hh2 := (below_lit (w.alloc bx) (.cells #[.slice none 0 0, .slice none 0 0, .slice none 0 0] 37)).block w.heap.size (by omega)
    have hh3 := (below_lit ((w.alloc bx).alloc (.cells #[.slice none 0 0, .slice none 0 0, .slice none 0 0] 37)) (.cells #[.slice (x.fa 0) (d.dur 0).length (x.fc 0), .slice (x.fa 1) (d.dur 1).length (x.fc 1), .slice (x.fa 2) (d.dur 2).length (x.fc 2)] 37)).block w.heap.size (by omega)
    rw [hh] at hh2
    rw [hh2] at hh3
    unfold World.cell?
    rw [hh3, hbx]
    rfl
  rw [← hbx, show w.heap.size + 1 + 1 = w.heap.size + 2 from rfl]
  generalize ((w.alloc bx).alloc (.cells #[.slice none 0 0, .slice none 0 0, .slice none 0 0] 37)).alloc (.cells #[.slice (x.fa 0) (d.dur 0).length (x.fc 0), .slice (x.fa 1) (d.dur 1).length (x.fc 1), .slice (x.fa 2) (d.dur 2).length (x.fc 2)] 37) = w2 at *
  clear hs1 hs2 hbx
  have hz2 := h7.lt
  obtain ⟨T7, hT7⟩ : ∃ T7 : Nat → Prop, T7 = fun b => T b ∨ b = w.heap.size + 2 ∨ b = w.heap.size + 1 := ⟨_, rfl⟩
  have hF0 : Fls w2 T7 (x.fv d) (stA d.ops d.dur k t 0) := fun i hi => by
    have e : stA d.ops d.dur k t 0 i = d.dur i := by unfold stA; rw [if_pos (Nat.zero_le _)]; rfl
    rw [e]
    refine ⟨x.fa i, x.fc i, rfl, ((hd.file i hi).turn (T' := T7) (fun b hb => ?_)).below bb⟩
    rw [hT7] at hb
    rcases hb with h | h | h
    · exact .inl h
    · exact .inr (by omega)
    · exact .inr (by omega)
  have h6' : ∀ W, Kp (fun b => b = w.heap.size + 2) w2 W → SBlk W (w.heap.size + 1) (fun _ => .slice none 0 0) := fun W hk => by unfold SBlk; rw [hk.block _ h6.lt (by omega)]; exact h6
  replace h6 := hid h6'
  clear h6'
  replace h3 := hid h3
  have hTb : Hid (∀ b, T7 b → b < w2.heap.size) := hid (fun b hb => by
    rw [hT7] at hb
    rcases hb with h | h | h
    · have := hT b h; omega
    · omega
    · omega)
  have hg7 : Hid (T7 (w.heap.size + 2)) := hid (by rw [hT7]; exact .inr (.inl rfl))
  have hTt : Hid (∀ b, T7 b → T b ∨ w.heap.size ≤ b) := hid (fun b hb => by
    rw [hT7] at hb
    rcases hb with h | h | h
    · exact .inl h
    · exact .inr (by omega)
    · exact .inr (by omega))
  replace hT7 := hid hT7
  go_wp2_with fail
  go_loopw [8] (fun jv wr => ∃ (j : Nat) (s : Nat → Value), j ≤ d.ops.length ∧ j ≤ k + 1 ∧ jv = .int .i64 j ∧ SBlk wr (w.heap.size + 2) s ∧ Fls wr T7 s (stA d.ops d.dur k t j) ∧ Kp (fun b => b = w.heap.size + 2) w2 wr) (fun jv _ => d.ops.length - (intOf jv).toNat)
  case atStart => exact ⟨0, x.fv d, Nat.zero_le _, Nat.zero_le _, rfl, h7, hF0, Kp.refl _ _⟩
  case round =>
    clear h7 hF0
    obtain ⟨j, s, hj1, hj2, rfl, hS, hF, hkp⟩ := hrel
    have hc3 := kp_cell hkp h3.out (by show ¬ (w.heap.size = w.heap.size + 2); omega)
    have hbl : Below w.heap.size w wr := bb.trans (hkp.below (fun b e => by rw [e]; omega) bb.size)
    have hzr := hkp.size
    by_cases hlt : j < d.ops.length ∧ j ≤ k
    · obtain ⟨hlj, hjk⟩ := hlt
      have hx : j < x.its.length := by rw [hil.out]; exact hlj
      obtain ⟨ob, oo, hoa, hcell⟩ := (hd.below hbl).itCell j hx
      have hci : (x.its[j]).c = d.ops[j] := by
        have := hd.ops
        simp only [← this, List.getElem_map]
      obtain ⟨it, hit⟩ : ∃ it, it = x.its[j] := ⟨_, rfl⟩
      have hdat := (hd.below hbl).data it (by rw [hit]; exact List.getElem_mem _)
      rw [← hit] at hcell hci
      have c0 := hcell 0 _ rfl
      have c1 := hcell 1 _ rfl
      have c2 := hcell 2 _ rfl
      have c3 := hcell 3 _ rfl
      rw [Nat.add_zero] at c0
      rw [← Nat.add_assoc] at c1 c2 c3
      obtain ⟨f, hf⟩ : ∃ f, f = it.c.file := ⟨_, rfl⟩
      rw [← hf] at c0
      have hfl : f < 3 := by rw [hf, hci]; exact okay_file hi.okay j hlj
      have hd1 : decide ((j : Int) < (x.its.length : Int)) = true := decide_eq_true (by omega)
      have hd2 : decide ((j : Int) ≤ (k : Int)) = true := decide_eq_true (by omega)
      rw [hoa] at hc3
      replace hci := hid hci
      replace hit := hid hit
      replace hf := hid hf
      clear hcell
      obtain ⟨sa, sc, es, fs⟩ := hF f hfl
      have y := hS.cell f hfl
      rw [es] at y
      have hsc := fs.cap
      have hlen : ((stA d.ops d.dur k t j) f).length ≤ 1048576 := by
        unfold stA
        rw [if_pos hjk]
        exact (hi.okay.take j).short hi.short f hfl
      have hput : Hid (∀ l1, (stA d.ops d.dur k t (j + 1) = fun i => if i = f then l1 else stA d.ops d.dur k t j i) → ∀ (w5 : World) (ra : Option Addr) (rc n1 : Nat), l1.length = n1 → FA w5 T7 ra rc l1 → Below wr.heap.size wr w5 → SBlk (w5.setCell ⟨w.heap.size + 2, f, none⟩ (.slice ra n1 rc)) (w.heap.size + 2) (updV s f (.slice ra n1 rc)) ∧ Fls (w5.setCell ⟨w.heap.size + 2, f, none⟩ (.slice ra n1 rc)) T7 (updV s f (.slice ra n1 rc)) (stA d.ops d.dur k t (j + 1)) ∧ Kp (fun b => b = w.heap.size + 2) w2 (w5.setCell ⟨w.heap.size + 2, f, none⟩ (.slice ra n1 rc))) := hid (fun l1 he w5 ra rc n1 hn1 hfa hb => by
        rw [he]
        exact put_file hg7.out hS hF hkp hb f hfl ra n1 rc l1 hn1 hfa)
      have hdl : it.c.app = true → ((stA d.ops d.dur k t j) f).length + it.c.data.length ≤ 1048576 := fun ha => by
        have h1 := okay_on hi.okay j hlj
        rw [← hci.out, ← hf.out] at h1
        unfold stA
        rw [if_pos hjk]
        unfold Ch.on at h1
        rw [ha, if_pos rfl, List.length_append] at h1
        exact h1
      cases happ : it.c.app with
      | false =>
        rw [happ] at c1
        simp only [Bool.not_false] at c1
        have ap2 := hid happ
        clear happ hdl
        by_cases hjk2 : j = k
        · have ek : ((j : Int) == (k : Int)) = true := by rw [hjk2]; simp
          have hst : stA d.ops d.dur k t j = runs (kept d.ops k t) d.dur := by
            subst hjk2
            exact stA_cut _ _ _ _ hlj (by rw [← hci.out]; exact ap2.out)
          clear hput fs hsc hlen
          replace hjk2 := hid hjk2
          have bl := below_lit wr (.cells #[.int .i64 (f : Int), .bool true, .int .i64 (it.c.left : Int), .slice it.a it.c.data.length it.cap] 103)
          have b9 : (wr.alloc (.cells #[.int .i64 (f : Int), .bool true, .int .i64 (it.c.left : Int), .slice it.a it.c.data.length it.cap] 103)).heap[wr.heap.size]? = some (.cells #[.int .i64 (f : Int), .bool true, .int .i64 (it.c.left : Int), .slice it.a it.c.data.length it.cap] 103 (0, 0)) := heap_alloc_new wr _
          have k0 := cell_of_row _ wr.heap.size 0 _ _ _ b9
          have k1 := cell_of_row _ wr.heap.size 1 _ _ _ b9
          have k2 := cell_of_row _ wr.heap.size 2 _ _ _ b9
          have k3 := cell_of_row _ wr.heap.size 3 _ _ _ b9
          simp only [List.getElem?_toArray, List.getElem?_cons_zero, List.getElem?_cons_succ] at k0 k1 k2 k3
          have yb := cell_b bl y
          have hfz : Hid (∀ W, Below (wr.alloc (.cells #[.int .i64 (f : Int), .bool true, .int .i64 (it.c.left : Int), .slice it.a it.c.data.length it.cap] 103)).heap.size (wr.alloc (.cells #[.int .i64 (f : Int), .bool true, .int .i64 (it.c.left : Int), .slice it.a it.c.data.length it.cap] 103)) W → W.frozen? ⟨w.heap.size + 2, f, none⟩ = false) := hid (fun W hb => (hS.below (bnext bl hb)).free f)
          have hTw : Hid (∀ b, T7 b → b < (wr.alloc (.cells #[.int .i64 (f : Int), .bool true, .int .i64 (it.c.left : Int), .slice it.a it.c.data.length it.cap] 103)).heap.size) := hid (fun b hb => Nat.lt_of_lt_of_le (hTb.out b hb) (Nat.le_trans hkp.size bl.size))
          obtain ⟨g9, hg9⟩ : ∃ g9, g9 = wr.heap.size := ⟨_, rfl⟩
          rw [← hg9] at k0 k1 k2 k3
          replace b9 := hid b9
          go_upto_region 8 with fail
          rw [← hg9]
          replace hg9 := hid hg9
          replace hS := hS.below bl
          replace hF := hF.below bl
          replace hbl := bnext hbl bl
          replace hkp := hkp.trans (Kp.of_below bl)
          generalize wr.alloc (.cells #[.int .i64 (f : Int), .bool true, .int .i64 (it.c.left : Int), .slice it.a it.c.data.length it.cap] 103) = wb at *
          clear c0 c1 c2 c3 hc3 y yb
          rw [hT7.out] at hF
          have y0 := hS.cell 0 (by omega)
          have y1 := hS.cell 1 (by omega)
          have y2 := hS.cell 2 (by omega)
          have hz6 := h6.out _ hkp
          have f0 := hz6.free 0
          have f1 := hz6.free 1
          have f2 := hz6.free 2
          have q0 := hz6.cell 0 (by omega)
          have q1 := hz6.cell 1 (by omega)
          have q2 := hz6.cell 2 (by omega)
          obtain ⟨sa0, sc0, e0, fa0⟩ := hF 0 (by omega)
          obtain ⟨sa1, sc1, e1, fa1⟩ := hF 1 (by omega)
          obtain ⟨sa2, sc2, e2, fa2⟩ := hF 2 (by omega)
          rw [e0] at y0
          rw [e1] at y1
          rw [e2] at y2
          have hr6 := ((hz6.set 0 (by omega) (.slice sa0 ((stA d.ops d.dur k t j) 0).length sc0)).set 1 (by omega) (.slice sa1 ((stA d.ops d.dur k t j) 1).length sc1)).set 2 (by omega) (.slice sa2 ((stA d.ops d.dur k t j) 2).length sc2)
          have hb6 := ((hbl.setCell (p := ⟨w.heap.size + 1, 0, none⟩) (by show w.heap.size ≤ w.heap.size + 1; omega) (.slice sa0 ((stA d.ops d.dur k t j) 0).length sc0)).setCell (p := ⟨w.heap.size + 1, 1, none⟩) (by show w.heap.size ≤ w.heap.size + 1; omega) (.slice sa1 ((stA d.ops d.dur k t j) 1).length sc1)).setCell (p := ⟨w.heap.size + 1, 2, none⟩) (by show w.heap.size ≤ w.heap.size + 1; omega) (.slice sa2 ((stA d.ops d.dur k t j) 2).length sc2)
          have kp6 : Kp (fun b => b = w.heap.size + 1) wb _ := Kp.setCell (S := fun b => b = w.heap.size + 1) (p := ⟨w.heap.size + 1, 2, none⟩) (Kp.setCell (S := fun b => b = w.heap.size + 1) (p := ⟨w.heap.size + 1, 1, none⟩) (Kp.setCell (S := fun b => b = w.heap.size + 1) (p := ⟨w.heap.size + 1, 0, none⟩) (Kp.refl _ _) rfl (.slice sa0 ((stA d.ops d.dur k t j) 0).length sc0)) rfl (.slice sa1 ((stA d.ops d.dur k t j) 1).length sc1)) rfl (.slice sa2 ((stA d.ops d.dur k t j) 2).length sc2)
          have g0 := (fa0.turn (T' := T) (fun k h => .inl (.inl h)))
          have fin : ∀ i a c, FA wb (fun b => T b ∨ b = w.heap.size + 2 ∨ b = w.heap.size + 1) a c ((stA d.ops d.dur k t j) i) → FA _ T a c ((stA d.ops d.dur k t j) i) := fun i a c h => ((h.kp (kp6.more (fun k e => .inr (.inr e)))).turn (T' := T) (fun k h => .inl (.inl h)))
          have r0 := fin 0 _ _ fa0
          have r1 := fin 1 _ _ fa1
          have r2 := fin 2 _ _ fa2
          replace hr6 := hid hr6
          replace hst := hid hst
          replace hb6 := hid hb6
          replace r0 := hid r0
          replace r1 := hid r1
          replace r2 := hid r2
          go_wp2
          (try simp only [Exit.inBlock, Exit.then])
          refine bodyPost_ret (results_sl rfl _ _ (w.heap.size + 1) _ rfl hr6.out) rfl ?_
          exact ⟨sa0, sc0, sa1, sc1, sa2, sc2, by rw [← hst.out]; rfl, by rw [← hst.out]; exact r0.out, by rw [← hst.out]; exact r1.out, by rw [← hst.out]; exact r2.out, hb6.out⟩
        · have ek : ((j : Int) == (k : Int)) = false := beq_eq_false_iff_ne.2 (by omega)
          have hleft : it.c.left ≤ ((stA d.ops d.dur k t j) f).length := by
            have h1 := okay_left hi.okay j hlj (by rw [← hci.out]; exact ap2.out)
            rw [← hci.out, ← hf.out] at h1
            unfold stA
            rw [if_pos hjk]
            exact h1
          have hstep : Hid (stA d.ops d.dur k t (j + 1) = fun i => if i = f then ((stA d.ops d.dur k t j) f).take it.c.left else (stA d.ops d.dur k t j) i) := hid (by
            rw [stA_step _ _ _ _ _ hlj (by omega), ← hci.out, apply_as _ _ f hf.out.symm]
            unfold Ch.on
            rw [ap2.out]
            rfl)
          have hlen2 : Hid ((((stA d.ops d.dur k t j) f).take it.c.left).length = it.c.left) := hid (by rw [List.length_take]; omega)
          have bl := below_lit wr (.cells #[.int .i64 (f : Int), .bool true, .int .i64 (it.c.left : Int), .slice it.a it.c.data.length it.cap] 103)
          have b9 : (wr.alloc (.cells #[.int .i64 (f : Int), .bool true, .int .i64 (it.c.left : Int), .slice it.a it.c.data.length it.cap] 103)).heap[wr.heap.size]? = some (.cells #[.int .i64 (f : Int), .bool true, .int .i64 (it.c.left : Int), .slice it.a it.c.data.length it.cap] 103 (0, 0)) := heap_alloc_new wr _
          have k0 := cell_of_row _ wr.heap.size 0 _ _ _ b9
          have k1 := cell_of_row _ wr.heap.size 1 _ _ _ b9
          have k2 := cell_of_row _ wr.heap.size 2 _ _ _ b9
          have k3 := cell_of_row _ wr.heap.size 3 _ _ _ b9
          simp only [List.getElem?_toArray, List.getElem?_cons_zero, List.getElem?_cons_succ] at k0 k1 k2 k3
          have yb := cell_b bl y
          have hfz : Hid (∀ W, Below (wr.alloc (.cells #[.int .i64 (f : Int), .bool true, .int .i64 (it.c.left : Int), .slice it.a it.c.data.length it.cap] 103)).heap.size (wr.alloc (.cells #[.int .i64 (f : Int), .bool true, .int .i64 (it.c.left : Int), .slice it.a it.c.data.length it.cap] 103)) W → W.frozen? ⟨w.heap.size + 2, f, none⟩ = false) := hid (fun W hb => (hS.below (bnext bl hb)).free f)
          have hTw : Hid (∀ b, T7 b → b < (wr.alloc (.cells #[.int .i64 (f : Int), .bool true, .int .i64 (it.c.left : Int), .slice it.a it.c.data.length it.cap] 103)).heap.size) := hid (fun b hb => Nat.lt_of_lt_of_le (hTb.out b hb) (Nat.le_trans hkp.size bl.size))
          obtain ⟨g9, hg9⟩ : ∃ g9, g9 = wr.heap.size := ⟨_, rfl⟩
          rw [← hg9] at k0 k1 k2 k3
          replace b9 := hid b9
          go_upto_region 11 with fail
          rw [← hg9]
          replace hg9 := hid hg9
          have hat := hid (fs.at_.below bl)
          have hdt := hid (hdat.at_.below bl)
          generalize wr.alloc (.cells #[.int .i64 (f : Int), .bool true, .int .i64 (it.c.left : Int), .slice it.a it.c.data.length it.cap] 103) = wb at *
          refine Code.wp_mono nrm_of ?_
          refine after_r11 (T := T7) (l := (stA d.ops d.dur k t j) f) hfl k0 k2 yb hfz rfl (by omega) hsc hleft hat hTw (hid ?_)
          intro d45 d46 d47 d48 d49 d50 d51 d52 d53 d54 d55 ra rc w5 hfa5 hb5
          have hp := hid (hput.out _ hstep.out w5 ra rc (it.c.left) (by first | rfl | (rw [hlen2.out])) hfa5 (bnext bl hb5))
          clear hfa5 hb5
          go_wp2_with fail
          go_roundw
          case rel => exact ⟨j + 1, _, by omega, by omega, by go_num, hp.out.1, hp.out.2.1, hp.out.2.2⟩
          case measure => simp [intOf]; omega
      | true =>
        rw [happ] at c1
        simp only [Bool.not_true] at c1
        have ap2 := hid happ
        have hdl2 := hdl happ
        clear happ hdl
        by_cases hjk2 : j = k
        · have ek : ((j : Int) == (k : Int)) = true := by rw [hjk2]; simp
          have hdc := hdat.cap
          obtain ⟨mm, hmm⟩ : ∃ mm : Nat, mm = min t it.c.data.length := ⟨_, rfl⟩
          have hmi : min (t : Int) (it.c.data.length : Int) = (mm : Int) := by omega
          have hm1 : mm ≤ it.cap := by omega
          have hm0 : (0 : Int) ≤ (mm : Int) := by omega
          have hm2 : (mm : Int) ≤ (it.cap : Int) := by omega
          have hm3 : (it.c.data.take t).length = mm := by rw [List.length_take]; exact hmm.symm
          have hstep : Hid (stA d.ops d.dur k t (j + 1) = fun i => if i = f then ((stA d.ops d.dur k t j) f) ++ it.c.data.take t else (stA d.ops d.dur k t j) i) := hid (by
            subst hjk2
            rw [stA_torn _ _ _ _ hlj (by rw [← hci.out]; exact ap2.out), ← hci.out]
            refine (apply_as _ _ f (by exact hf.out.symm)).trans ?_
            unfold Ch.on
            dsimp only
            rw [ap2.out]
            rfl)
          have hlen2 : Hid ((((stA d.ops d.dur k t j) f) ++ it.c.data.take t).length = ((stA d.ops d.dur k t j) f).length + mm) := hid (by rw [List.length_append, hm3])
          have hmw : Hid ((if it.c.data.length < t then (it.c.data.length : Int) else (t : Int)).toNat = mm) := hid (by split <;> omega)
          replace hmm := hid hmm
          replace hjk2 := hid hjk2
          have bl := below_lit wr (.cells #[.int .i64 (f : Int), .bool false, .int .i64 (it.c.left : Int), .slice it.a it.c.data.length it.cap] 103)
          have b9 : (wr.alloc (.cells #[.int .i64 (f : Int), .bool false, .int .i64 (it.c.left : Int), .slice it.a it.c.data.length it.cap] 103)).heap[wr.heap.size]? = some (.cells #[.int .i64 (f : Int), .bool false, .int .i64 (it.c.left : Int), .slice it.a it.c.data.length it.cap] 103 (0, 0)) := heap_alloc_new wr _
          have k0 := cell_of_row _ wr.heap.size 0 _ _ _ b9
          have k1 := cell_of_row _ wr.heap.size 1 _ _ _ b9
          have k2 := cell_of_row _ wr.heap.size 2 _ _ _ b9
          have k3 := cell_of_row _ wr.heap.size 3 _ _ _ b9
          simp only [List.getElem?_toArray, List.getElem?_cons_zero, List.getElem?_cons_succ] at k0 k1 k2 k3
          have yb := cell_b bl y
          have hfz : Hid (∀ W, Below (wr.alloc (.cells #[.int .i64 (f : Int), .bool false, .int .i64 (it.c.left : Int), .slice it.a it.c.data.length it.cap] 103)).heap.size (wr.alloc (.cells #[.int .i64 (f : Int), .bool false, .int .i64 (it.c.left : Int), .slice it.a it.c.data.length it.cap] 103)) W → W.frozen? ⟨w.heap.size + 2, f, none⟩ = false) := hid (fun W hb => (hS.below (bnext bl hb)).free f)
          have hTw : Hid (∀ b, T7 b → b < (wr.alloc (.cells #[.int .i64 (f : Int), .bool false, .int .i64 (it.c.left : Int), .slice it.a it.c.data.length it.cap] 103)).heap.size) := hid (fun b hb => Nat.lt_of_lt_of_le (hTb.out b hb) (Nat.le_trans hkp.size bl.size))
          obtain ⟨g9, hg9⟩ : ∃ g9, g9 = wr.heap.size := ⟨_, rfl⟩
          rw [← hg9] at k0 k1 k2 k3
          replace b9 := hid b9
          go_upto_region 12 with fail
          rw [← hg9]
          replace hg9 := hid hg9
          have hat := hid (fs.at_.below bl)
          have hdt := hid (hdat.at_.below bl)
          generalize wr.alloc (.cells #[.int .i64 (f : Int), .bool false, .int .i64 (it.c.left : Int), .slice it.a it.c.data.length it.cap] 103) = wb at *
          rw [hmw.out]
          refine Code.wp_mono nrm_of ?_
          refine after_r12 (T := T7) (l := (stA d.ops d.dur k t j) f) (dt := it.c.data.take t) hfl k0 yb hfz rfl (by omega) hm3 (by have := hmm.out; omega) hat (hid (at_take hdt.out _)) hTw (hid ?_)
          intro d56 d57 d58 d59 d60 d61 d62 d63 d64 d65 ra rc w5 hfa5 hb5
          have hp := hid (hput.out _ hstep.out w5 ra rc (((stA d.ops d.dur k t j) f).length + mm) (by first | rfl | (rw [hlen2.out])) hfa5 (bnext bl hb5))
          clear hfa5 hb5
          go_wp2_with fail
          go_roundw
          case rel => exact ⟨j + 1, _, by omega, by omega, by go_num, hp.out.1, hp.out.2.1, hp.out.2.2⟩
          case measure => simp [intOf]; omega
        · have ek : ((j : Int) == (k : Int)) = false := beq_eq_false_iff_ne.2 (by omega)
          have hstep : Hid (stA d.ops d.dur k t (j + 1) = fun i => if i = f then ((stA d.ops d.dur k t j) f) ++ it.c.data else (stA d.ops d.dur k t j) i) := hid (by
            rw [stA_step _ _ _ _ _ hlj (by omega), ← hci.out, apply_as _ _ f hf.out.symm]
            unfold Ch.on
            rw [ap2.out]
            rfl)
          have hlen2 : Hid ((((stA d.ops d.dur k t j) f) ++ it.c.data).length = ((stA d.ops d.dur k t j) f).length + it.c.data.length) := hid (by rw [List.length_append])
          have bl := below_lit wr (.cells #[.int .i64 (f : Int), .bool false, .int .i64 (it.c.left : Int), .slice it.a it.c.data.length it.cap] 103)
          have b9 : (wr.alloc (.cells #[.int .i64 (f : Int), .bool false, .int .i64 (it.c.left : Int), .slice it.a it.c.data.length it.cap] 103)).heap[wr.heap.size]? = some (.cells #[.int .i64 (f : Int), .bool false, .int .i64 (it.c.left : Int), .slice it.a it.c.data.length it.cap] 103 (0, 0)) := heap_alloc_new wr _
          have k0 := cell_of_row _ wr.heap.size 0 _ _ _ b9
          have k1 := cell_of_row _ wr.heap.size 1 _ _ _ b9
          have k2 := cell_of_row _ wr.heap.size 2 _ _ _ b9
          have k3 := cell_of_row _ wr.heap.size 3 _ _ _ b9
          simp only [List.getElem?_toArray, List.getElem?_cons_zero, List.getElem?_cons_succ] at k0 k1 k2 k3
          have yb := cell_b bl y
          have hfz : Hid (∀ W, Below (wr.alloc (.cells #[.int .i64 (f : Int), .bool false, .int .i64 (it.c.left : Int), .slice it.a it.c.data.length it.cap] 103)).heap.size (wr.alloc (.cells #[.int .i64 (f : Int), .bool false, .int .i64 (it.c.left : Int), .slice it.a it.c.data.length it.cap] 103)) W → W.frozen? ⟨w.heap.size + 2, f, none⟩ = false) := hid (fun W hb => (hS.below (bnext bl hb)).free f)
          have hTw : Hid (∀ b, T7 b → b < (wr.alloc (.cells #[.int .i64 (f : Int), .bool false, .int .i64 (it.c.left : Int), .slice it.a it.c.data.length it.cap] 103)).heap.size) := hid (fun b hb => Nat.lt_of_lt_of_le (hTb.out b hb) (Nat.le_trans hkp.size bl.size))
          obtain ⟨g9, hg9⟩ : ∃ g9, g9 = wr.heap.size := ⟨_, rfl⟩
          rw [← hg9] at k0 k1 k2 k3
          replace b9 := hid b9
          go_upto_region 12 with fail
          rw [← hg9]
          replace hg9 := hid hg9
          have hat := hid (fs.at_.below bl)
          have hdt := hid (hdat.at_.below bl)
          generalize wr.alloc (.cells #[.int .i64 (f : Int), .bool false, .int .i64 (it.c.left : Int), .slice it.a it.c.data.length it.cap] 103) = wb at *
          refine Code.wp_mono nrm_of ?_
          refine after_r12 (T := T7) (l := (stA d.ops d.dur k t j) f) (dt := it.c.data) hfl k0 yb hfz rfl (by omega) rfl (by omega) hat hdt hTw (hid ?_)
          intro d56 d57 d58 d59 d60 d61 d62 d63 d64 d65 ra rc w5 hfa5 hb5
          have hp := hid (hput.out _ hstep.out w5 ra rc (((stA d.ops d.dur k t j) f).length + it.c.data.length) (by first | rfl | (rw [hlen2.out])) hfa5 (bnext bl hb5))
          clear hfa5 hb5
          go_wp2_with fail
          go_roundw
          case rel => exact ⟨j + 1, _, by omega, by omega, by go_num, hp.out.1, hp.out.2.1, hp.out.2.2⟩
          case measure => simp [intOf]; omega
    · have hst : stA d.ops d.dur k t j = runs (kept d.ops k t) d.dur := stA_end _ _ _ _ _ (by omega)
      rw [show x.its.length = d.ops.length from hil.out] at hc3
      by_cases hl : j < d.ops.length
      · have hd1 : decide ((j : Int) < (d.ops.length : Int)) = true := decide_eq_true (by omega)
        have hd2 : decide ((j : Int) ≤ (k : Int)) = false := decide_eq_false (by omega)
        rw [hT7.out] at hF
        have y0 := hS.cell 0 (by omega)
        have y1 := hS.cell 1 (by omega)
        have y2 := hS.cell 2 (by omega)
        have hz6 := h6.out _ hkp
        have f0 := hz6.free 0
        have f1 := hz6.free 1
        have f2 := hz6.free 2
        have q0 := hz6.cell 0 (by omega)
        have q1 := hz6.cell 1 (by omega)
        have q2 := hz6.cell 2 (by omega)
        obtain ⟨sa0, sc0, e0, fa0⟩ := hF 0 (by omega)
        obtain ⟨sa1, sc1, e1, fa1⟩ := hF 1 (by omega)
        obtain ⟨sa2, sc2, e2, fa2⟩ := hF 2 (by omega)
        rw [e0] at y0
        rw [e1] at y1
        rw [e2] at y2
        have hr6 := ((hz6.set 0 (by omega) (.slice sa0 ((stA d.ops d.dur k t j) 0).length sc0)).set 1 (by omega) (.slice sa1 ((stA d.ops d.dur k t j) 1).length sc1)).set 2 (by omega) (.slice sa2 ((stA d.ops d.dur k t j) 2).length sc2)
        have hb6 := ((hbl.setCell (p := ⟨w.heap.size + 1, 0, none⟩) (by show w.heap.size ≤ w.heap.size + 1; omega) (.slice sa0 ((stA d.ops d.dur k t j) 0).length sc0)).setCell (p := ⟨w.heap.size + 1, 1, none⟩) (by show w.heap.size ≤ w.heap.size + 1; omega) (.slice sa1 ((stA d.ops d.dur k t j) 1).length sc1)).setCell (p := ⟨w.heap.size + 1, 2, none⟩) (by show w.heap.size ≤ w.heap.size + 1; omega) (.slice sa2 ((stA d.ops d.dur k t j) 2).length sc2)
        have kp6 : Kp (fun b => b = w.heap.size + 1) wr _ := Kp.setCell (S := fun b => b = w.heap.size + 1) (p := ⟨w.heap.size + 1, 2, none⟩) (Kp.setCell (S := fun b => b = w.heap.size + 1) (p := ⟨w.heap.size + 1, 1, none⟩) (Kp.setCell (S := fun b => b = w.heap.size + 1) (p := ⟨w.heap.size + 1, 0, none⟩) (Kp.refl _ _) rfl (.slice sa0 ((stA d.ops d.dur k t j) 0).length sc0)) rfl (.slice sa1 ((stA d.ops d.dur k t j) 1).length sc1)) rfl (.slice sa2 ((stA d.ops d.dur k t j) 2).length sc2)
        have g0 := (fa0.turn (T' := T) (fun k h => .inl (.inl h)))
        have fin : ∀ i a c, FA wr (fun b => T b ∨ b = w.heap.size + 2 ∨ b = w.heap.size + 1) a c ((stA d.ops d.dur k t j) i) → FA _ T a c ((stA d.ops d.dur k t j) i) := fun i a c h => ((h.kp (kp6.more (fun k e => .inr (.inr e)))).turn (T' := T) (fun k h => .inl (.inl h)))
        have r0 := fin 0 _ _ fa0
        have r1 := fin 1 _ _ fa1
        have r2 := fin 2 _ _ fa2
        replace hr6 := hid hr6
        replace hst := hid hst
        replace hb6 := hid hb6
        replace r0 := hid r0
        replace r1 := hid r1
        replace r2 := hid r2
        go_wp2
        (try simp only [Exit.inBlock, Exit.then])
        refine bodyPost_ret (results_sl rfl _ _ (w.heap.size + 1) _ rfl hr6.out) rfl ?_
        exact ⟨sa0, sc0, sa1, sc1, sa2, sc2, by rw [← hst.out]; rfl, by rw [← hst.out]; exact r0.out, by rw [← hst.out]; exact r1.out, by rw [← hst.out]; exact r2.out, hb6.out⟩
      · have hd1 : decide ((j : Int) < (d.ops.length : Int)) = false := decide_eq_false (by omega)
        rw [hT7.out] at hF
        have y0 := hS.cell 0 (by omega)
        have y1 := hS.cell 1 (by omega)
        have y2 := hS.cell 2 (by omega)
        have hz6 := h6.out _ hkp
        have f0 := hz6.free 0
        have f1 := hz6.free 1
        have f2 := hz6.free 2
        have q0 := hz6.cell 0 (by omega)
        have q1 := hz6.cell 1 (by omega)
        have q2 := hz6.cell 2 (by omega)
        obtain ⟨sa0, sc0, e0, fa0⟩ := hF 0 (by omega)
        obtain ⟨sa1, sc1, e1, fa1⟩ := hF 1 (by omega)
        obtain ⟨sa2, sc2, e2, fa2⟩ := hF 2 (by omega)
        rw [e0] at y0
        rw [e1] at y1
        rw [e2] at y2
        have hr6 := ((hz6.set 0 (by omega) (.slice sa0 ((stA d.ops d.dur k t j) 0).length sc0)).set 1 (by omega) (.slice sa1 ((stA d.ops d.dur k t j) 1).length sc1)).set 2 (by omega) (.slice sa2 ((stA d.ops d.dur k t j) 2).length sc2)
        have hb6 := ((hbl.setCell (p := ⟨w.heap.size + 1, 0, none⟩) (by show w.heap.size ≤ w.heap.size + 1; omega) (.slice sa0 ((stA d.ops d.dur k t j) 0).length sc0)).setCell (p := ⟨w.heap.size + 1, 1, none⟩) (by show w.heap.size ≤ w.heap.size + 1; omega) (.slice sa1 ((stA d.ops d.dur k t j) 1).length sc1)).setCell (p := ⟨w.heap.size + 1, 2, none⟩) (by show w.heap.size ≤ w.heap.size + 1; omega) (.slice sa2 ((stA d.ops d.dur k t j) 2).length sc2)
        have kp6 : Kp (fun b => b = w.heap.size + 1) wr _ := Kp.setCell (S := fun b => b = w.heap.size + 1) (p := ⟨w.heap.size + 1, 2, none⟩) (Kp.setCell (S := fun b => b = w.heap.size + 1) (p := ⟨w.heap.size + 1, 1, none⟩) (Kp.setCell (S := fun b => b = w.heap.size + 1) (p := ⟨w.heap.size + 1, 0, none⟩) (Kp.refl _ _) rfl (.slice sa0 ((stA d.ops d.dur k t j) 0).length sc0)) rfl (.slice sa1 ((stA d.ops d.dur k t j) 1).length sc1)) rfl (.slice sa2 ((stA d.ops d.dur k t j) 2).length sc2)
        have g0 := (fa0.turn (T' := T) (fun k h => .inl (.inl h)))
        have fin : ∀ i a c, FA wr (fun b => T b ∨ b = w.heap.size + 2 ∨ b = w.heap.size + 1) a c ((stA d.ops d.dur k t j) i) → FA _ T a c ((stA d.ops d.dur k t j) i) := fun i a c h => ((h.kp (kp6.more (fun k e => .inr (.inr e)))).turn (T' := T) (fun k h => .inl (.inl h)))
        have r0 := fin 0 _ _ fa0
        have r1 := fin 1 _ _ fa1
        have r2 := fin 2 _ _ fa2
        replace hr6 := hid hr6
        replace hst := hid hst
        replace hb6 := hid hb6
        replace r0 := hid r0
        replace r1 := hid r1
        replace r2 := hid r2
        go_wp2
        (try simp only [Exit.inBlock, Exit.then])
        refine bodyPost_ret (results_sl rfl _ _ (w.heap.size + 1) _ rfl hr6.out) rfl ?_
        exact ⟨sa0, sc0, sa1, sc1, sa2, sc2, by rw [← hst.out]; rfl, by rw [← hst.out]; exact r0.out, by rw [← hst.out]; exact r1.out, by rw [← hst.out]; exact r2.out, hb6.out⟩
end Go.Proofs.Ytpngnmogjmdmhaa
