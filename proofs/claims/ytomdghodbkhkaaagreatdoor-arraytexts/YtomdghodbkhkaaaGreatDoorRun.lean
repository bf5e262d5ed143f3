/- runOf: the run that a piece tells. -/
import Derived.Test.YtomdghodbkhkaaaGreatDoorCut
import Derived.Test.YtomdghodbkhkaaaGreatDoorDrawAlv
import Derived.Test.YtomdghodbkhkaaaGreatDoorVals
import Derived.Test.YtomdghodbkhkaaaGreatDoorJt
import Derived.Deep.CutBlock
import Derived.Deep.Cut
namespace Go.Proofs.YtomdghodbkhkaaaGreatDoor
open Go.RowKit
set_option linter.unusedVariables false
set_option linter.unusedSimpArgs false

/-- A block that holds a run. -/
def RB (w : World) (g : Nat) (a b c : Int) : Prop := w.heap[g]? = some (.cells #[.int .i64 a, .int .i64 b, .int .i64 c] 64 (0, 0))
theorem RB.cells {w : World} {g : Nat} {a b c : Int} (h : RB w g a b c) : w.cell? ⟨g, 0, none⟩ = some (.int .i64 a) ∧ w.cell? ⟨g, 1, none⟩ = some (.int .i64 b) ∧ w.cell? ⟨g, 2, none⟩ = some (.int .i64 c) := ⟨row_cell h 0 _ rfl, row_cell h 1 _ rfl, row_cell h 2 _ rfl⟩
theorem RB.free {w : World} {g : Nat} {a b c : Int} (h : RB w g a b c) : w.frozen? ⟨g, 0, none⟩ = false ∧ w.frozen? ⟨g, 1, none⟩ = false ∧ w.frozen? ⟨g, 2, none⟩ = false := ⟨row_free h 0, row_free h 1, row_free h 2⟩
theorem RB.lt {w : World} {g : Nat} {a b c : Int} (h : RB w g a b c) : g < w.heap.size := (Array.getElem?_eq_some_iff.1 h).1
theorem RB.kp {S : Nat → Prop} {w w' : World} {g : Nat} {a b c : Int} (h : RB w g a b c) (hk : Kp S w w') (hn : ¬ S g) : RB w' g a b c := by
  unfold RB; rw [hk.block g h.lt hn]; exact h
theorem RB.below {w w' : World} {g : Nat} {a b c : Int} (h : RB w g a b c) (hb : Below w.heap.size w w') : RB w' g a b c := h.kp (S := fun _ => False) (Kp.of_below hb) (fun h => h)
theorem RB.set1 {w : World} {g : Nat} {a b c : Int} (h : RB w g a b c) (x : Int) : RB (w.setCell ⟨g, 1, none⟩ (.int .i64 x)) g a x c := by
  unfold RB at *
  rw [setCell_eq_setRow w g 1 _ 64 (0, 0) _ h, setRow_heap w g _ _ 64 _ h]
  rfl
theorem RB.set2 {w : World} {g : Nat} {a b c : Int} (h : RB w g a b c) (x : Int) : RB (w.setCell ⟨g, 2, none⟩ (.int .i64 x)) g a b x := by
  unfold RB at *
  rw [setCell_eq_setRow w g 2 _ 64 (0, 0) _ h, setRow_heap w g _ _ 64 _ h]
  rfl
theorem RB.new (w : World) (a b c : Int) : RB (w.alloc (.cells #[.int .i64 a, .int .i64 b, .int .i64 c] 64)) w.heap.size a b c := heap_alloc_new w _

theorem read_any (p : Nat) (l : List UInt8) (b : Bool) (hl : l.length ≤ 9223372036854775807) (w : World) (hp : TBlk 4 w p (.bool b)) :
    Calls Tryz.prog 52 #[Str l, ptr p] w fun e w' => e = .returned (.int .i64 ((numV l).1 : Int)) ∧ TBlk 4 w' p (.bool (b && (numV l).2)) ∧ Kp (fun k => k = p) w w' := by
  have hn := fun w => num_any l hl w
  generalize numV l = V at *
  obtain ⟨n, ok⟩ := V
  have hlt := hp.lt
  replace hp := hid hp
  go_enter Tryz.func52, Tryz.ntmps52
  go_wp2_with fail
  refine (hn _).mono ?_
  rintro e w1 ⟨rfl, hb⟩
  have hp1 := hp.out.below hb
  have c1 := hp1.cell
  have f1 := hp1.free
  have fin : ∀ u, Kp (fun k => k = p) w (w1.setCell ⟨p, 0, none⟩ u) := fun u => Kp.setCell (S := fun k => k = p) (p := ⟨p, 0, none⟩) (Kp.of_below hb) rfl u
  have hs := fun u => hp1.set u
  replace hp1 := hid hp1
  replace fin := hid fin
  replace hs := hid hs
  cases b
  · go_wp2
    go_ret
    exact ⟨rfl, hs.out _, fin.out _⟩
  · go_wp2
    go_ret
    exact ⟨rfl, hs.out _, fin.out _⟩

/-- What runOf answers. -/
def lastV (l : List UInt8) : Nat × Bool := if (cut1 l).2.2 then numV (cut2 l).1 else numV (cut1 l).1
def stepV (l : List UInt8) : Nat × Bool := if (cut2 l).2.2 then numV (cut2 l).2.1 else (1, true)
def runV (l : List UInt8) : Run × Bool := (((numV (cut1 l).1).1, (lastV l).1, (stepV l).1), (numV (cut1 l).1).2 && (lastV l).2 && (stepV l).2 && decide ((numV (cut1 l).1).1 ≤ (lastV l).1) && decide (1 ≤ (stepV l).1))
theorem numV_some {l : List UInt8} : numP l = if (numV l).2 then some (numV l).1 else none := by
  unfold numV
  cases numP l <;> rfl
theorem runV_is (l : List UInt8) : runP l = if (runV l).2 then some (runV l).1 else none := by
  have e2 : (if (cut1 l).2.2 then numP (cut2 l).1 else numP (cut1 l).1) = if (lastV l).2 then some (lastV l).1 else none := by
    unfold lastV
    split <;> exact numV_some
  have e3 : (if (cut2 l).2.2 then numP (cut2 l).2.1 else some 1) = if (stepV l).2 then some (stepV l).1 else none := by
    unfold stepV
    split
    · exact numV_some
    · rfl
  unfold runP
  rw [e2, e3, numV_some]
  unfold runV
  simp only
  generalize numV (cut1 l).1 = A
  generalize lastV l = B
  generalize stepV l = C
  obtain ⟨a, x⟩ := A
  obtain ⟨b, y⟩ := B
  obtain ⟨c, z⟩ := C
  cases x <;> cases y <;> cases z <;> simp

def blkAt (n : Nat) : Code → Option Code
  | .block m c => if m == n then some (.block m c) else blkAt n c
  | .seq a b => match blkAt n a with
    | some x => some x
    | none => blkAt n b
  | .cond _ a b => match blkAt n a with
    | some x => some x
    | none => blkAt n b
  | .loop c => blkAt n c
  | .scope c => blkAt n c
  | _ => none

def regAt (n : Nat) : Code → Option Code
  | .region m o d => if m == n then some (.region m o d) else none
  | .block _ c => regAt n c
  | .seq a b => match regAt n a with
    | some x => some x
    | none => regAt n b
  | .cond _ a b => match regAt n a with
    | some x => some x
    | none => regAt n b
  | .loop c => regAt n c
  | .scope c => regAt n c
  | _ => none

/-- Only the way straight on. -/
def Nrm (F : Act → World → Prop) : Exit → Act → World → Prop
  | .normal => F
  | _ => fun _ _ => False

theorem nrm_of {Q : Exit → Act → World → Prop} : ∀ e a w, Nrm (Q .normal) e a w → Q e a w := by
  intro e a w h
  cases e <;> first | exact h | exact h.elim


theorem info50s : (Tryz.prog.info? 64).map (·.size) = some 3 := by kernel_rfl
/-- While the run is told: the result's block, and what has turned. -/
def RWd (w : World) (g0 : Nat) (a b c : Int) (L : Nat → Bool) (w1 : World) : Prop := (L 14 = true → RB w1 g0 a b c) ∧ (L 14 = false → RB w1 g0 0 0 0) ∧ Kp (fun k => k = g0) w w1

def rv11_0 (g0 g1 g2 : Nat) (a b c : Int) : Nat → Value → Prop
  | 0, v => v = .agg #[.int .i64 a, .int .i64 b, .int .i64 c]
  | 1, v => v = .bool false
  | 2, v => v = .bool false
  | 3, v => v = undef
  | 4, v => v = undef
  | 5, v => v = undef
  | 6, v => v = undef
  | 7, v => v = undef
  | 8, v => v = .bool false
  | 9, v => v = .bool false
  | 10, v => v = undef
  | 11, v => v = undef
  | 12, v => v = undef
  | 13, v => v = .bool false
  | 15, v => v = .bool false
  | _, _ => True

set_option maxRecDepth 100000 in
set_option maxHeartbeats 4000000 in
theorem run_r11_0 {FF : Act → World → Prop} {w : World} {g0 g1 g2 : Nat} {a b c : Int} {c0 c1 c3 c5 c6 c7 c8 c9 c10 c11 c13 c14 c15 c16 c17 c18 c19 c20 c21 c22 c23 c24 c25 c26 c27 c28 c29 c30 c31 c32 c33 c34 c35 c36 c37 c38 c39 c40 c41 c42 c43 c44 c45 c46 c47 c48 c49 c50 c51 c52 c53 c54 c55 c56 : Value}
    (h0 : Hid (RB w g0 0 0 0)) (h1 : Hid (TBlk 4 w g1 (.bool false))) (h2 : Hid (RB w g2 a b c)) (n02 : g0 < g2) (n01 : g0 < g1)
    (hQ : Hid (∀ (d43 d44 d45 d46 d47 d48 d49 d50 d51 d52 d53 d54 d55 d56 : Value) (w' : World), RB w' g0 a b c → Kp (fun k => k = g0) w w' → FF ⟨#[c0, c1, .pointer (some ⟨g0, 0, none⟩), .bool false, .pointer (some ⟨g1, 0, none⟩), c5, c6, c7, c8, c9, c10, c11, .pointer (some ⟨g2, 0, none⟩), c13, c14, c15, c16, c17, c18, c19, c20, c21, c22, c23, c24, c25, c26, c27, c28, c29, c30, c31, c32, c33, c34, c35, c36, c37, c38, c39, c40, c41, c42, d43, d44, d45, d46, d47, d48, d49, d50, d51, d52, d53, d54, d55, d56], []⟩ w')) :
    Code.wp Tryz.prog ((Tryz.f37.body.bind (regAt 11)).getD .skip) (Nrm FF) ⟨#[c0, c1, .pointer (some ⟨g0, 0, none⟩), c3, .pointer (some ⟨g1, 0, none⟩), c5, c6, c7, c8, c9, c10, c11, .pointer (some ⟨g2, 0, none⟩), c13, c14, c15, c16, c17, c18, c19, c20, c21, c22, c23, c24, c25, c26, c27, c28, c29, c30, c31, c32, c33, c34, c35, c36, c37, c38, c39, c40, c41, c42, c43, c44, c45, c46, c47, c48, c49, c50, c51, c52, c53, c54, c55, c56], []⟩ w := by
  conv => arg 2; whnf
  refine wp_region_alv (Wd := fun L _ w1 => RWd w g0 a b c L w1) (Pv := rv11_0 g0 g1 g2 a b c) (by kernel_rfl) (by kernel_rfl) ?_ ?_ ?_
  · intro L V hL
    exact ⟨fun h => (by rw [hL 14] at h; cases h), fun _ => h0.out.below (drew_below w), Kp.of_below (drew_below w)⟩
  · refine ⟨?_, ?_, ?_, ?_, ?_, ?_, ?_, ?_, ?_, ?_, ?_, ?_, ?_, ?_, ?_, ?_, trivial⟩
    · intro ac w1 L hL hup hcl hW hdd hk Kx hK
      have h2w := h2.out.kp hW.2.2 (by omega)
      refine yes (want_n rfl) (wp_load_row 64 _ rfl g2 (get_keep (hk 12 (no_dst (by kernel_rfl))) rfl) 64 _ (0, 0) _ h2w Tryz.underlying64 rfl info50s ?_)
      exact hK _ _ (fun _ => rfl) (fun L2 V2 i1 i2 i3 i4 => ⟨fun h => hW.1 (by rw [← i2 14 (by decide)]; exact h), fun h => hW.2.1 (by rw [← i2 14 (by decide)]; exact h), hW.2.2⟩)
    · intro ac w1 L hL hup hcl hW hdd hk Kx hK
      have e4 : ac.tmps[4]?.getD undef = (.pointer (some ⟨g1, 0, none⟩) : Value) := slot (get_keep (hk 4 (no_dst (by kernel_rfl))) rfl)
      have h1w := h1.out.kp hW.2.2 (by omega)
      have y0 := h1w.cell
      refine yes (want_n rfl) ?_
      have hv := hid (hK (.bool false) w1 (fun _ => rfl) (fun L2 V2 i1 i2 i3 i4 => ⟨fun h => hW.1 (by rw [← i2 14 (by decide)]; exact h), fun h => hW.2.1 (by rw [← i2 14 (by decide)]; exact h), hW.2.2⟩))
      clear hK hW hL hup hdd hk hcl
      go_simp
      exact kq hv.out rfl
    · intro ac w1 L hL hup hcl hW hdd hk Kx hK
      refine yes (want_n rfl) (wp_mv _ rfl _ (hdd 1 _ 44 rfl rfl rfl) ?_)
      exact hK _ _ (fun _ => rfl) (fun L2 V2 i1 i2 i3 i4 => ⟨fun h => hW.1 (by rw [← i2 14 (by decide)]; exact h), fun h => hW.2.1 (by rw [← i2 14 (by decide)]; exact h), hW.2.2⟩)
    · intro ac w1 L hL hup hcl hW hdd hk Kx hK
      exact nope (want_f rfl rfl (hdd 2 _ 45 rfl rfl rfl) (by decide)) (hK _ _ (fun _ => rfl) (fun L2 V2 i1 i2 i3 i4 => ⟨fun h => hW.1 (by rw [← i2 14 (by decide)]; exact h), fun h => hW.2.1 (by rw [← i2 14 (by decide)]; exact h), hW.2.2⟩))
    · intro ac w1 L hL hup hcl hW hdd hk Kx hK
      exact nope (want_f rfl rfl (hdd 2 _ 45 rfl rfl rfl) (by decide)) (hK _ _ (fun _ => rfl) (fun L2 V2 i1 i2 i3 i4 => ⟨fun h => hW.1 (by rw [← i2 14 (by decide)]; exact h), fun h => hW.2.1 (by rw [← i2 14 (by decide)]; exact h), hW.2.2⟩))
    · intro ac w1 L hL hup hcl hW hdd hk Kx hK
      exact nope (want_f rfl rfl (hdd 2 _ 45 rfl rfl rfl) (by decide)) (hK _ _ (fun _ => rfl) (fun L2 V2 i1 i2 i3 i4 => ⟨fun h => hW.1 (by rw [← i2 14 (by decide)]; exact h), fun h => hW.2.1 (by rw [← i2 14 (by decide)]; exact h), hW.2.2⟩))
    · intro ac w1 L hL hup hcl hW hdd hk Kx hK
      exact nope (want_f rfl rfl (hdd 2 _ 45 rfl rfl rfl) (by decide)) (hK _ _ (fun _ => rfl) (fun L2 V2 i1 i2 i3 i4 => ⟨fun h => hW.1 (by rw [← i2 14 (by decide)]; exact h), fun h => hW.2.1 (by rw [← i2 14 (by decide)]; exact h), hW.2.2⟩))
    · intro ac w1 L hL hup hcl hW hdd hk Kx hK
      exact nope (want_f rfl rfl (hdd 2 _ 45 rfl rfl rfl) (by decide)) (hK _ _ (fun _ => rfl) (fun L2 V2 i1 i2 i3 i4 => ⟨fun h => hW.1 (by rw [← i2 14 (by decide)]; exact h), fun h => hW.2.1 (by rw [← i2 14 (by decide)]; exact h), hW.2.2⟩))
    · intro ac w1 L hL hup hcl hW hdd hk Kx hK
      refine yes (want_n rfl) (wp_pick _ _ _ rfl false _ (hdd 2 _ 45 rfl rfl rfl) rfl ?_)
      exact hK _ _ (fun _ => rfl) (fun L2 V2 i1 i2 i3 i4 => ⟨fun h => hW.1 (by rw [← i2 14 (by decide)]; exact h), fun h => hW.2.1 (by rw [← i2 14 (by decide)]; exact h), hW.2.2⟩)
    · intro ac w1 L hL hup hcl hW hdd hk Kx hK
      refine yes (want_n rfl) (wp_mv _ rfl _ (hdd 8 _ 51 rfl rfl rfl) ?_)
      exact hK _ _ (fun _ => rfl) (fun L2 V2 i1 i2 i3 i4 => ⟨fun h => hW.1 (by rw [← i2 14 (by decide)]; exact h), fun h => hW.2.1 (by rw [← i2 14 (by decide)]; exact h), hW.2.2⟩)
    · intro ac w1 L hL hup hcl hW hdd hk Kx hK
      exact nope (want_f rfl rfl (hdd 9 _ 52 rfl rfl rfl) (by decide)) (hK _ _ (fun _ => rfl) (fun L2 V2 i1 i2 i3 i4 => ⟨fun h => hW.1 (by rw [← i2 14 (by decide)]; exact h), fun h => hW.2.1 (by rw [← i2 14 (by decide)]; exact h), hW.2.2⟩))
    · intro ac w1 L hL hup hcl hW hdd hk Kx hK
      exact nope (want_f rfl rfl (hdd 9 _ 52 rfl rfl rfl) (by decide)) (hK _ _ (fun _ => rfl) (fun L2 V2 i1 i2 i3 i4 => ⟨fun h => hW.1 (by rw [← i2 14 (by decide)]; exact h), fun h => hW.2.1 (by rw [← i2 14 (by decide)]; exact h), hW.2.2⟩))
    · intro ac w1 L hL hup hcl hW hdd hk Kx hK
      exact nope (want_f rfl rfl (hdd 9 _ 52 rfl rfl rfl) (by decide)) (hK _ _ (fun _ => rfl) (fun L2 V2 i1 i2 i3 i4 => ⟨fun h => hW.1 (by rw [← i2 14 (by decide)]; exact h), fun h => hW.2.1 (by rw [← i2 14 (by decide)]; exact h), hW.2.2⟩))
    · intro ac w1 L hL hup hcl hW hdd hk Kx hK
      refine yes (want_n rfl) (wp_pick _ _ _ rfl false _ (hdd 9 _ 52 rfl rfl rfl) rfl ?_)
      exact hK _ _ (fun _ => rfl) (fun L2 V2 i1 i2 i3 i4 => ⟨fun h => hW.1 (by rw [← i2 14 (by decide)]; exact h), fun h => hW.2.1 (by rw [← i2 14 (by decide)]; exact h), hW.2.2⟩)
    · intro ac w1 L hL hup hcl hW hdd hk Kx hK
      have hz := hW.2.1 hL
      refine yes (want_n rfl) (wp_store_row 64 _ _ rfl g0 _ (get_keep (hk 2 (no_dst (by kernel_rfl))) rfl) (hdd 0 _ 43 rfl rfl rfl) 64 _ hz info50s rfl (by simp [Value.oneCell']) ?_)
      refine hK _ _ (fun h => absurd rfl h) (fun L2 V2 i1 i2 i3 i4 => ⟨fun _ => ?_, fun h => absurd (h.symm.trans i1) (by decide), kp_setRow hW.2.2 rfl _⟩)
      unfold RB
      exact setRow_heap _ g0 _ _ 64 _ hz
    · intro ac w1 L hL hup hcl hW hdd hk Kx hK
      refine yes (want_n rfl) (wp_as _ rfl _ (hdd 13 _ 56 rfl rfl rfl) ?_)
      exact hK _ _ (fun _ => rfl) (fun L2 V2 i1 i2 i3 i4 => ⟨fun h => hW.1 (by rw [← i2 14 (by decide)]; exact h), fun h => hW.2.1 (by rw [← i2 14 (by decide)]; exact h), hW.2.2⟩)
  · intro ac w1 hdf hsz hkp hval hW
    obtain ⟨L, hall, hW⟩ := hW
    obtain ⟨ff, hf⟩ : ∃ ff, ff = fun d => ac.tmps.getD d undef := ⟨_, rfl⟩
    have h3 : ff 3 = .bool false := by rw [hf]; exact hval 15 _ 3 rfl rfl
    have hfa := act_filled hdf hsz hkp
    rw [← hf] at hfa
    rw [hfa]
    clear hdf hsz hkp hval hfa hf
    clear ac
    simp only [fillAll, List.set_cons_zero, List.set_cons_succ, h3]
    exact hQ.out _ _ _ _ _ _ _ _ _ _ _ _ _ _ w1 (hW.1 (hall 14 (by decide))) hW.2.2

def rv11_1 (g0 g1 g2 : Nat) (a b c : Int) : Nat → Value → Prop
  | 0, v => v = .agg #[.int .i64 a, .int .i64 b, .int .i64 c]
  | 1, v => v = .bool true
  | 2, v => v = .bool true
  | 3, v => v = .pointer (some ⟨g2, 0, none⟩)
  | 4, v => v = .int .i64 a
  | 5, v => v = .pointer (some ⟨g2, 1, none⟩)
  | 6, v => v = .int .i64 b
  | 7, v => v = .bool false
  | 8, v => v = .bool false
  | 9, v => v = .bool false
  | 10, v => v = undef
  | 11, v => v = undef
  | 12, v => v = undef
  | 13, v => v = .bool false
  | 15, v => v = .bool false
  | _, _ => True

set_option maxRecDepth 100000 in
set_option maxHeartbeats 4000000 in
theorem run_r11_1 {FF : Act → World → Prop} {w : World} {g0 g1 g2 : Nat} {a b c : Int} {c0 c1 c3 c5 c6 c7 c8 c9 c10 c11 c13 c14 c15 c16 c17 c18 c19 c20 c21 c22 c23 c24 c25 c26 c27 c28 c29 c30 c31 c32 c33 c34 c35 c36 c37 c38 c39 c40 c41 c42 c43 c44 c45 c46 c47 c48 c49 c50 c51 c52 c53 c54 c55 c56 : Value}
    (h0 : Hid (RB w g0 0 0 0)) (h1 : Hid (TBlk 4 w g1 (.bool true))) (h2 : Hid (RB w g2 a b c)) (n02 : g0 < g2) (n01 : g0 < g1) (hab : ¬ a ≤ b)
    (hQ : Hid (∀ (d43 d44 d45 d46 d47 d48 d49 d50 d51 d52 d53 d54 d55 d56 : Value) (w' : World), RB w' g0 a b c → Kp (fun k => k = g0) w w' → FF ⟨#[c0, c1, .pointer (some ⟨g0, 0, none⟩), .bool false, .pointer (some ⟨g1, 0, none⟩), c5, c6, c7, c8, c9, c10, c11, .pointer (some ⟨g2, 0, none⟩), c13, c14, c15, c16, c17, c18, c19, c20, c21, c22, c23, c24, c25, c26, c27, c28, c29, c30, c31, c32, c33, c34, c35, c36, c37, c38, c39, c40, c41, c42, d43, d44, d45, d46, d47, d48, d49, d50, d51, d52, d53, d54, d55, d56], []⟩ w')) :
    Code.wp Tryz.prog ((Tryz.f37.body.bind (regAt 11)).getD .skip) (Nrm FF) ⟨#[c0, c1, .pointer (some ⟨g0, 0, none⟩), c3, .pointer (some ⟨g1, 0, none⟩), c5, c6, c7, c8, c9, c10, c11, .pointer (some ⟨g2, 0, none⟩), c13, c14, c15, c16, c17, c18, c19, c20, c21, c22, c23, c24, c25, c26, c27, c28, c29, c30, c31, c32, c33, c34, c35, c36, c37, c38, c39, c40, c41, c42, c43, c44, c45, c46, c47, c48, c49, c50, c51, c52, c53, c54, c55, c56], []⟩ w := by
  have dab : decide (a ≤ b) = false := decide_eq_false hab
  conv => arg 2; whnf
  refine wp_region_alv (Wd := fun L _ w1 => RWd w g0 a b c L w1) (Pv := rv11_1 g0 g1 g2 a b c) (by kernel_rfl) (by kernel_rfl) ?_ ?_ ?_
  · intro L V hL
    exact ⟨fun h => (by rw [hL 14] at h; cases h), fun _ => h0.out.below (drew_below w), Kp.of_below (drew_below w)⟩
  · refine ⟨?_, ?_, ?_, ?_, ?_, ?_, ?_, ?_, ?_, ?_, ?_, ?_, ?_, ?_, ?_, ?_, trivial⟩
    · intro ac w1 L hL hup hcl hW hdd hk Kx hK
      have h2w := h2.out.kp hW.2.2 (by omega)
      refine yes (want_n rfl) (wp_load_row 64 _ rfl g2 (get_keep (hk 12 (no_dst (by kernel_rfl))) rfl) 64 _ (0, 0) _ h2w Tryz.underlying64 rfl info50s ?_)
      exact hK _ _ (fun _ => rfl) (fun L2 V2 i1 i2 i3 i4 => ⟨fun h => hW.1 (by rw [← i2 14 (by decide)]; exact h), fun h => hW.2.1 (by rw [← i2 14 (by decide)]; exact h), hW.2.2⟩)
    · intro ac w1 L hL hup hcl hW hdd hk Kx hK
      have e4 : ac.tmps[4]?.getD undef = (.pointer (some ⟨g1, 0, none⟩) : Value) := slot (get_keep (hk 4 (no_dst (by kernel_rfl))) rfl)
      have h1w := h1.out.kp hW.2.2 (by omega)
      have y0 := h1w.cell
      refine yes (want_n rfl) ?_
      have hv := hid (hK (.bool true) w1 (fun _ => rfl) (fun L2 V2 i1 i2 i3 i4 => ⟨fun h => hW.1 (by rw [← i2 14 (by decide)]; exact h), fun h => hW.2.1 (by rw [← i2 14 (by decide)]; exact h), hW.2.2⟩))
      clear hK hW hL hup hdd hk hcl
      go_simp
      exact kq hv.out rfl
    · intro ac w1 L hL hup hcl hW hdd hk Kx hK
      refine yes (want_n rfl) (wp_mv _ rfl _ (hdd 1 _ 44 rfl rfl rfl) ?_)
      exact hK _ _ (fun _ => rfl) (fun L2 V2 i1 i2 i3 i4 => ⟨fun h => hW.1 (by rw [← i2 14 (by decide)]; exact h), fun h => hW.2.1 (by rw [← i2 14 (by decide)]; exact h), hW.2.2⟩)
    · intro ac w1 L hL hup hcl hW hdd hk Kx hK
      have e12 : ac.tmps[12]?.getD undef = (.pointer (some ⟨g2, 0, none⟩) : Value) := slot (get_keep (hk 12 (no_dst (by kernel_rfl))) rfl)
      refine yes (want_g rfl rfl (hdd 2 _ 45 rfl rfl rfl)) ?_
      have hv := hid (hK (.pointer (some ⟨g2, 0, none⟩)) w1 (fun _ => rfl) (fun L2 V2 i1 i2 i3 i4 => ⟨fun h => hW.1 (by rw [← i2 14 (by decide)]; exact h), fun h => hW.2.1 (by rw [← i2 14 (by decide)]; exact h), hW.2.2⟩))
      clear hK hW hL hup hdd hk hcl
      go_simp
      exact kq hv.out rfl
    · intro ac w1 L hL hup hcl hW hdd hk Kx hK
      have e46 : ac.tmps[46]?.getD undef = (.pointer (some ⟨g2, 0, none⟩) : Value) := slot (hdd 3 _ 46 rfl rfl rfl)
      have h2w := h2.out.kp hW.2.2 (by omega)
      obtain ⟨x0, x1, x2⟩ := h2w.cells
      refine yes (want_g rfl rfl (hdd 2 _ 45 rfl rfl rfl)) ?_
      have hv := hid (hK (.int .i64 a) w1 (fun _ => rfl) (fun L2 V2 i1 i2 i3 i4 => ⟨fun h => hW.1 (by rw [← i2 14 (by decide)]; exact h), fun h => hW.2.1 (by rw [← i2 14 (by decide)]; exact h), hW.2.2⟩))
      clear hK hW hL hup hdd hk hcl
      go_simp
      exact kq hv.out rfl
    · intro ac w1 L hL hup hcl hW hdd hk Kx hK
      have e12 : ac.tmps[12]?.getD undef = (.pointer (some ⟨g2, 0, none⟩) : Value) := slot (get_keep (hk 12 (no_dst (by kernel_rfl))) rfl)
      refine yes (want_g rfl rfl (hdd 2 _ 45 rfl rfl rfl)) ?_
      have hv := hid (hK (.pointer (some ⟨g2, 1, none⟩)) w1 (fun _ => rfl) (fun L2 V2 i1 i2 i3 i4 => ⟨fun h => hW.1 (by rw [← i2 14 (by decide)]; exact h), fun h => hW.2.1 (by rw [← i2 14 (by decide)]; exact h), hW.2.2⟩))
      clear hK hW hL hup hdd hk hcl
      go_simp
      exact kq hv.out rfl
    · intro ac w1 L hL hup hcl hW hdd hk Kx hK
      have e48 : ac.tmps[48]?.getD undef = (.pointer (some ⟨g2, 1, none⟩) : Value) := slot (hdd 5 _ 48 rfl rfl rfl)
      have h2w := h2.out.kp hW.2.2 (by omega)
      obtain ⟨x0, x1, x2⟩ := h2w.cells
      refine yes (want_g rfl rfl (hdd 2 _ 45 rfl rfl rfl)) ?_
      have hv := hid (hK (.int .i64 b) w1 (fun _ => rfl) (fun L2 V2 i1 i2 i3 i4 => ⟨fun h => hW.1 (by rw [← i2 14 (by decide)]; exact h), fun h => hW.2.1 (by rw [← i2 14 (by decide)]; exact h), hW.2.2⟩))
      clear hK hW hL hup hdd hk hcl
      go_simp
      exact kq hv.out rfl
    · intro ac w1 L hL hup hcl hW hdd hk Kx hK
      have e47 : ac.tmps[47]?.getD undef = (.int .i64 a : Value) := slot (hdd 4 _ 47 rfl rfl rfl)
      have e49 : ac.tmps[49]?.getD undef = (.int .i64 b : Value) := slot (hdd 6 _ 49 rfl rfl rfl)
      refine yes (want_g rfl rfl (hdd 2 _ 45 rfl rfl rfl)) ?_
      have hv := hid (hK (.bool false) w1 (fun _ => rfl) (fun L2 V2 i1 i2 i3 i4 => ⟨fun h => hW.1 (by rw [← i2 14 (by decide)]; exact h), fun h => hW.2.1 (by rw [← i2 14 (by decide)]; exact h), hW.2.2⟩))
      clear hK hW hL hup hdd hk hcl
      go_simp
      exact kq hv.out rfl
    · intro ac w1 L hL hup hcl hW hdd hk Kx hK
      refine yes (want_n rfl) (wp_pick _ _ _ rfl true _ (hdd 2 _ 45 rfl rfl rfl) (hdd 7 _ 50 rfl rfl rfl) ?_)
      exact hK _ _ (fun _ => rfl) (fun L2 V2 i1 i2 i3 i4 => ⟨fun h => hW.1 (by rw [← i2 14 (by decide)]; exact h), fun h => hW.2.1 (by rw [← i2 14 (by decide)]; exact h), hW.2.2⟩)
    · intro ac w1 L hL hup hcl hW hdd hk Kx hK
      refine yes (want_n rfl) (wp_mv _ rfl _ (hdd 8 _ 51 rfl rfl rfl) ?_)
      exact hK _ _ (fun _ => rfl) (fun L2 V2 i1 i2 i3 i4 => ⟨fun h => hW.1 (by rw [← i2 14 (by decide)]; exact h), fun h => hW.2.1 (by rw [← i2 14 (by decide)]; exact h), hW.2.2⟩)
    · intro ac w1 L hL hup hcl hW hdd hk Kx hK
      exact nope (want_f rfl rfl (hdd 9 _ 52 rfl rfl rfl) (by decide)) (hK _ _ (fun _ => rfl) (fun L2 V2 i1 i2 i3 i4 => ⟨fun h => hW.1 (by rw [← i2 14 (by decide)]; exact h), fun h => hW.2.1 (by rw [← i2 14 (by decide)]; exact h), hW.2.2⟩))
    · intro ac w1 L hL hup hcl hW hdd hk Kx hK
      exact nope (want_f rfl rfl (hdd 9 _ 52 rfl rfl rfl) (by decide)) (hK _ _ (fun _ => rfl) (fun L2 V2 i1 i2 i3 i4 => ⟨fun h => hW.1 (by rw [← i2 14 (by decide)]; exact h), fun h => hW.2.1 (by rw [← i2 14 (by decide)]; exact h), hW.2.2⟩))
    · intro ac w1 L hL hup hcl hW hdd hk Kx hK
      exact nope (want_f rfl rfl (hdd 9 _ 52 rfl rfl rfl) (by decide)) (hK _ _ (fun _ => rfl) (fun L2 V2 i1 i2 i3 i4 => ⟨fun h => hW.1 (by rw [← i2 14 (by decide)]; exact h), fun h => hW.2.1 (by rw [← i2 14 (by decide)]; exact h), hW.2.2⟩))
    · intro ac w1 L hL hup hcl hW hdd hk Kx hK
      refine yes (want_n rfl) (wp_pick _ _ _ rfl false _ (hdd 9 _ 52 rfl rfl rfl) rfl ?_)
      exact hK _ _ (fun _ => rfl) (fun L2 V2 i1 i2 i3 i4 => ⟨fun h => hW.1 (by rw [← i2 14 (by decide)]; exact h), fun h => hW.2.1 (by rw [← i2 14 (by decide)]; exact h), hW.2.2⟩)
    · intro ac w1 L hL hup hcl hW hdd hk Kx hK
      have hz := hW.2.1 hL
      refine yes (want_n rfl) (wp_store_row 64 _ _ rfl g0 _ (get_keep (hk 2 (no_dst (by kernel_rfl))) rfl) (hdd 0 _ 43 rfl rfl rfl) 64 _ hz info50s rfl (by simp [Value.oneCell']) ?_)
      refine hK _ _ (fun h => absurd rfl h) (fun L2 V2 i1 i2 i3 i4 => ⟨fun _ => ?_, fun h => absurd (h.symm.trans i1) (by decide), kp_setRow hW.2.2 rfl _⟩)
      unfold RB
      exact setRow_heap _ g0 _ _ 64 _ hz
    · intro ac w1 L hL hup hcl hW hdd hk Kx hK
      refine yes (want_n rfl) (wp_as _ rfl _ (hdd 13 _ 56 rfl rfl rfl) ?_)
      exact hK _ _ (fun _ => rfl) (fun L2 V2 i1 i2 i3 i4 => ⟨fun h => hW.1 (by rw [← i2 14 (by decide)]; exact h), fun h => hW.2.1 (by rw [← i2 14 (by decide)]; exact h), hW.2.2⟩)
  · intro ac w1 hdf hsz hkp hval hW
    obtain ⟨L, hall, hW⟩ := hW
    obtain ⟨ff, hf⟩ : ∃ ff, ff = fun d => ac.tmps.getD d undef := ⟨_, rfl⟩
    have h3 : ff 3 = .bool false := by rw [hf]; exact hval 15 _ 3 rfl rfl
    have hfa := act_filled hdf hsz hkp
    rw [← hf] at hfa
    rw [hfa]
    clear hdf hsz hkp hval hfa hf
    clear ac
    simp only [fillAll, List.set_cons_zero, List.set_cons_succ, h3]
    exact hQ.out _ _ _ _ _ _ _ _ _ _ _ _ _ _ w1 (hW.1 (hall 14 (by decide))) hW.2.2

def rv11_2 (g0 g1 g2 : Nat) (a b c : Int) : Nat → Value → Prop
  | 0, v => v = .agg #[.int .i64 a, .int .i64 b, .int .i64 c]
  | 1, v => v = .bool true
  | 2, v => v = .bool true
  | 3, v => v = .pointer (some ⟨g2, 0, none⟩)
  | 4, v => v = .int .i64 a
  | 5, v => v = .pointer (some ⟨g2, 1, none⟩)
  | 6, v => v = .int .i64 b
  | 7, v => v = .bool true
  | 8, v => v = .bool true
  | 9, v => v = .bool true
  | 10, v => v = .pointer (some ⟨g2, 2, none⟩)
  | 11, v => v = .int .i64 c
  | 12, v => v = .bool false
  | 13, v => v = .bool false
  | 15, v => v = .bool false
  | _, _ => True

set_option maxRecDepth 100000 in
set_option maxHeartbeats 4000000 in
theorem run_r11_2 {FF : Act → World → Prop} {w : World} {g0 g1 g2 : Nat} {a b c : Int} {c0 c1 c3 c5 c6 c7 c8 c9 c10 c11 c13 c14 c15 c16 c17 c18 c19 c20 c21 c22 c23 c24 c25 c26 c27 c28 c29 c30 c31 c32 c33 c34 c35 c36 c37 c38 c39 c40 c41 c42 c43 c44 c45 c46 c47 c48 c49 c50 c51 c52 c53 c54 c55 c56 : Value}
    (h0 : Hid (RB w g0 0 0 0)) (h1 : Hid (TBlk 4 w g1 (.bool true))) (h2 : Hid (RB w g2 a b c)) (n02 : g0 < g2) (n01 : g0 < g1) (hab : a ≤ b) (hc : ¬ 1 ≤ c)
    (hQ : Hid (∀ (d43 d44 d45 d46 d47 d48 d49 d50 d51 d52 d53 d54 d55 d56 : Value) (w' : World), RB w' g0 a b c → Kp (fun k => k = g0) w w' → FF ⟨#[c0, c1, .pointer (some ⟨g0, 0, none⟩), .bool false, .pointer (some ⟨g1, 0, none⟩), c5, c6, c7, c8, c9, c10, c11, .pointer (some ⟨g2, 0, none⟩), c13, c14, c15, c16, c17, c18, c19, c20, c21, c22, c23, c24, c25, c26, c27, c28, c29, c30, c31, c32, c33, c34, c35, c36, c37, c38, c39, c40, c41, c42, d43, d44, d45, d46, d47, d48, d49, d50, d51, d52, d53, d54, d55, d56], []⟩ w')) :
    Code.wp Tryz.prog ((Tryz.f37.body.bind (regAt 11)).getD .skip) (Nrm FF) ⟨#[c0, c1, .pointer (some ⟨g0, 0, none⟩), c3, .pointer (some ⟨g1, 0, none⟩), c5, c6, c7, c8, c9, c10, c11, .pointer (some ⟨g2, 0, none⟩), c13, c14, c15, c16, c17, c18, c19, c20, c21, c22, c23, c24, c25, c26, c27, c28, c29, c30, c31, c32, c33, c34, c35, c36, c37, c38, c39, c40, c41, c42, c43, c44, c45, c46, c47, c48, c49, c50, c51, c52, c53, c54, c55, c56], []⟩ w := by
  have dab : decide (a ≤ b) = true := decide_eq_true hab
  have dc : decide (1 ≤ c) = false := decide_eq_false hc
  conv => arg 2; whnf
  refine wp_region_alv (Wd := fun L _ w1 => RWd w g0 a b c L w1) (Pv := rv11_2 g0 g1 g2 a b c) (by kernel_rfl) (by kernel_rfl) ?_ ?_ ?_
  · intro L V hL
    exact ⟨fun h => (by rw [hL 14] at h; cases h), fun _ => h0.out.below (drew_below w), Kp.of_below (drew_below w)⟩
  · refine ⟨?_, ?_, ?_, ?_, ?_, ?_, ?_, ?_, ?_, ?_, ?_, ?_, ?_, ?_, ?_, ?_, trivial⟩
    · intro ac w1 L hL hup hcl hW hdd hk Kx hK
      have h2w := h2.out.kp hW.2.2 (by omega)
      refine yes (want_n rfl) (wp_load_row 64 _ rfl g2 (get_keep (hk 12 (no_dst (by kernel_rfl))) rfl) 64 _ (0, 0) _ h2w Tryz.underlying64 rfl info50s ?_)
      exact hK _ _ (fun _ => rfl) (fun L2 V2 i1 i2 i3 i4 => ⟨fun h => hW.1 (by rw [← i2 14 (by decide)]; exact h), fun h => hW.2.1 (by rw [← i2 14 (by decide)]; exact h), hW.2.2⟩)
    · intro ac w1 L hL hup hcl hW hdd hk Kx hK
      have e4 : ac.tmps[4]?.getD undef = (.pointer (some ⟨g1, 0, none⟩) : Value) := slot (get_keep (hk 4 (no_dst (by kernel_rfl))) rfl)
      have h1w := h1.out.kp hW.2.2 (by omega)
      have y0 := h1w.cell
      refine yes (want_n rfl) ?_
      have hv := hid (hK (.bool true) w1 (fun _ => rfl) (fun L2 V2 i1 i2 i3 i4 => ⟨fun h => hW.1 (by rw [← i2 14 (by decide)]; exact h), fun h => hW.2.1 (by rw [← i2 14 (by decide)]; exact h), hW.2.2⟩))
      clear hK hW hL hup hdd hk hcl
      go_simp
      exact kq hv.out rfl
    · intro ac w1 L hL hup hcl hW hdd hk Kx hK
      refine yes (want_n rfl) (wp_mv _ rfl _ (hdd 1 _ 44 rfl rfl rfl) ?_)
      exact hK _ _ (fun _ => rfl) (fun L2 V2 i1 i2 i3 i4 => ⟨fun h => hW.1 (by rw [← i2 14 (by decide)]; exact h), fun h => hW.2.1 (by rw [← i2 14 (by decide)]; exact h), hW.2.2⟩)
    · intro ac w1 L hL hup hcl hW hdd hk Kx hK
      have e12 : ac.tmps[12]?.getD undef = (.pointer (some ⟨g2, 0, none⟩) : Value) := slot (get_keep (hk 12 (no_dst (by kernel_rfl))) rfl)
      refine yes (want_g rfl rfl (hdd 2 _ 45 rfl rfl rfl)) ?_
      have hv := hid (hK (.pointer (some ⟨g2, 0, none⟩)) w1 (fun _ => rfl) (fun L2 V2 i1 i2 i3 i4 => ⟨fun h => hW.1 (by rw [← i2 14 (by decide)]; exact h), fun h => hW.2.1 (by rw [← i2 14 (by decide)]; exact h), hW.2.2⟩))
      clear hK hW hL hup hdd hk hcl
      go_simp
      exact kq hv.out rfl
    · intro ac w1 L hL hup hcl hW hdd hk Kx hK
      have e46 : ac.tmps[46]?.getD undef = (.pointer (some ⟨g2, 0, none⟩) : Value) := slot (hdd 3 _ 46 rfl rfl rfl)
      have h2w := h2.out.kp hW.2.2 (by omega)
      obtain ⟨x0, x1, x2⟩ := h2w.cells
      refine yes (want_g rfl rfl (hdd 2 _ 45 rfl rfl rfl)) ?_
      have hv := hid (hK (.int .i64 a) w1 (fun _ => rfl) (fun L2 V2 i1 i2 i3 i4 => ⟨fun h => hW.1 (by rw [← i2 14 (by decide)]; exact h), fun h => hW.2.1 (by rw [← i2 14 (by decide)]; exact h), hW.2.2⟩))
      clear hK hW hL hup hdd hk hcl
      go_simp
      exact kq hv.out rfl
    · intro ac w1 L hL hup hcl hW hdd hk Kx hK
      have e12 : ac.tmps[12]?.getD undef = (.pointer (some ⟨g2, 0, none⟩) : Value) := slot (get_keep (hk 12 (no_dst (by kernel_rfl))) rfl)
      refine yes (want_g rfl rfl (hdd 2 _ 45 rfl rfl rfl)) ?_
      have hv := hid (hK (.pointer (some ⟨g2, 1, none⟩)) w1 (fun _ => rfl) (fun L2 V2 i1 i2 i3 i4 => ⟨fun h => hW.1 (by rw [← i2 14 (by decide)]; exact h), fun h => hW.2.1 (by rw [← i2 14 (by decide)]; exact h), hW.2.2⟩))
      clear hK hW hL hup hdd hk hcl
      go_simp
      exact kq hv.out rfl
    · intro ac w1 L hL hup hcl hW hdd hk Kx hK
      have e48 : ac.tmps[48]?.getD undef = (.pointer (some ⟨g2, 1, none⟩) : Value) := slot (hdd 5 _ 48 rfl rfl rfl)
      have h2w := h2.out.kp hW.2.2 (by omega)
      obtain ⟨x0, x1, x2⟩ := h2w.cells
      refine yes (want_g rfl rfl (hdd 2 _ 45 rfl rfl rfl)) ?_
      have hv := hid (hK (.int .i64 b) w1 (fun _ => rfl) (fun L2 V2 i1 i2 i3 i4 => ⟨fun h => hW.1 (by rw [← i2 14 (by decide)]; exact h), fun h => hW.2.1 (by rw [← i2 14 (by decide)]; exact h), hW.2.2⟩))
      clear hK hW hL hup hdd hk hcl
      go_simp
      exact kq hv.out rfl
    · intro ac w1 L hL hup hcl hW hdd hk Kx hK
      have e47 : ac.tmps[47]?.getD undef = (.int .i64 a : Value) := slot (hdd 4 _ 47 rfl rfl rfl)
      have e49 : ac.tmps[49]?.getD undef = (.int .i64 b : Value) := slot (hdd 6 _ 49 rfl rfl rfl)
      refine yes (want_g rfl rfl (hdd 2 _ 45 rfl rfl rfl)) ?_
      have hv := hid (hK (.bool true) w1 (fun _ => rfl) (fun L2 V2 i1 i2 i3 i4 => ⟨fun h => hW.1 (by rw [← i2 14 (by decide)]; exact h), fun h => hW.2.1 (by rw [← i2 14 (by decide)]; exact h), hW.2.2⟩))
      clear hK hW hL hup hdd hk hcl
      go_simp
      exact kq hv.out rfl
    · intro ac w1 L hL hup hcl hW hdd hk Kx hK
      refine yes (want_n rfl) (wp_pick _ _ _ rfl true _ (hdd 2 _ 45 rfl rfl rfl) (hdd 7 _ 50 rfl rfl rfl) ?_)
      exact hK _ _ (fun _ => rfl) (fun L2 V2 i1 i2 i3 i4 => ⟨fun h => hW.1 (by rw [← i2 14 (by decide)]; exact h), fun h => hW.2.1 (by rw [← i2 14 (by decide)]; exact h), hW.2.2⟩)
    · intro ac w1 L hL hup hcl hW hdd hk Kx hK
      refine yes (want_n rfl) (wp_mv _ rfl _ (hdd 8 _ 51 rfl rfl rfl) ?_)
      exact hK _ _ (fun _ => rfl) (fun L2 V2 i1 i2 i3 i4 => ⟨fun h => hW.1 (by rw [← i2 14 (by decide)]; exact h), fun h => hW.2.1 (by rw [← i2 14 (by decide)]; exact h), hW.2.2⟩)
    · intro ac w1 L hL hup hcl hW hdd hk Kx hK
      have e12 : ac.tmps[12]?.getD undef = (.pointer (some ⟨g2, 0, none⟩) : Value) := slot (get_keep (hk 12 (no_dst (by kernel_rfl))) rfl)
      refine yes (want_g rfl rfl (hdd 9 _ 52 rfl rfl rfl)) ?_
      have hv := hid (hK (.pointer (some ⟨g2, 2, none⟩)) w1 (fun _ => rfl) (fun L2 V2 i1 i2 i3 i4 => ⟨fun h => hW.1 (by rw [← i2 14 (by decide)]; exact h), fun h => hW.2.1 (by rw [← i2 14 (by decide)]; exact h), hW.2.2⟩))
      clear hK hW hL hup hdd hk hcl
      go_simp
      exact kq hv.out rfl
    · intro ac w1 L hL hup hcl hW hdd hk Kx hK
      have e53 : ac.tmps[53]?.getD undef = (.pointer (some ⟨g2, 2, none⟩) : Value) := slot (hdd 10 _ 53 rfl rfl rfl)
      have h2w := h2.out.kp hW.2.2 (by omega)
      obtain ⟨x0, x1, x2⟩ := h2w.cells
      refine yes (want_g rfl rfl (hdd 9 _ 52 rfl rfl rfl)) ?_
      have hv := hid (hK (.int .i64 c) w1 (fun _ => rfl) (fun L2 V2 i1 i2 i3 i4 => ⟨fun h => hW.1 (by rw [← i2 14 (by decide)]; exact h), fun h => hW.2.1 (by rw [← i2 14 (by decide)]; exact h), hW.2.2⟩))
      clear hK hW hL hup hdd hk hcl
      go_simp
      exact kq hv.out rfl
    · intro ac w1 L hL hup hcl hW hdd hk Kx hK
      have e54 : ac.tmps[54]?.getD undef = (.int .i64 c : Value) := slot (hdd 11 _ 54 rfl rfl rfl)
      refine yes (want_g rfl rfl (hdd 9 _ 52 rfl rfl rfl)) ?_
      have hv := hid (hK (.bool false) w1 (fun _ => rfl) (fun L2 V2 i1 i2 i3 i4 => ⟨fun h => hW.1 (by rw [← i2 14 (by decide)]; exact h), fun h => hW.2.1 (by rw [← i2 14 (by decide)]; exact h), hW.2.2⟩))
      clear hK hW hL hup hdd hk hcl
      go_simp
      exact kq hv.out rfl
    · intro ac w1 L hL hup hcl hW hdd hk Kx hK
      refine yes (want_n rfl) (wp_pick _ _ _ rfl true _ (hdd 9 _ 52 rfl rfl rfl) (hdd 12 _ 55 rfl rfl rfl) ?_)
      exact hK _ _ (fun _ => rfl) (fun L2 V2 i1 i2 i3 i4 => ⟨fun h => hW.1 (by rw [← i2 14 (by decide)]; exact h), fun h => hW.2.1 (by rw [← i2 14 (by decide)]; exact h), hW.2.2⟩)
    · intro ac w1 L hL hup hcl hW hdd hk Kx hK
      have hz := hW.2.1 hL
      refine yes (want_n rfl) (wp_store_row 64 _ _ rfl g0 _ (get_keep (hk 2 (no_dst (by kernel_rfl))) rfl) (hdd 0 _ 43 rfl rfl rfl) 64 _ hz info50s rfl (by simp [Value.oneCell']) ?_)
      refine hK _ _ (fun h => absurd rfl h) (fun L2 V2 i1 i2 i3 i4 => ⟨fun _ => ?_, fun h => absurd (h.symm.trans i1) (by decide), kp_setRow hW.2.2 rfl _⟩)
      unfold RB
      exact setRow_heap _ g0 _ _ 64 _ hz
    · intro ac w1 L hL hup hcl hW hdd hk Kx hK
      refine yes (want_n rfl) (wp_as _ rfl _ (hdd 13 _ 56 rfl rfl rfl) ?_)
      exact hK _ _ (fun _ => rfl) (fun L2 V2 i1 i2 i3 i4 => ⟨fun h => hW.1 (by rw [← i2 14 (by decide)]; exact h), fun h => hW.2.1 (by rw [← i2 14 (by decide)]; exact h), hW.2.2⟩)
  · intro ac w1 hdf hsz hkp hval hW
    obtain ⟨L, hall, hW⟩ := hW
    obtain ⟨ff, hf⟩ : ∃ ff, ff = fun d => ac.tmps.getD d undef := ⟨_, rfl⟩
    have h3 : ff 3 = .bool false := by rw [hf]; exact hval 15 _ 3 rfl rfl
    have hfa := act_filled hdf hsz hkp
    rw [← hf] at hfa
    rw [hfa]
    clear hdf hsz hkp hval hfa hf
    clear ac
    simp only [fillAll, List.set_cons_zero, List.set_cons_succ, h3]
    exact hQ.out _ _ _ _ _ _ _ _ _ _ _ _ _ _ w1 (hW.1 (hall 14 (by decide))) hW.2.2

def rv11_3 (g0 g1 g2 : Nat) (a b c : Int) : Nat → Value → Prop
  | 0, v => v = .agg #[.int .i64 a, .int .i64 b, .int .i64 c]
  | 1, v => v = .bool true
  | 2, v => v = .bool true
  | 3, v => v = .pointer (some ⟨g2, 0, none⟩)
  | 4, v => v = .int .i64 a
  | 5, v => v = .pointer (some ⟨g2, 1, none⟩)
  | 6, v => v = .int .i64 b
  | 7, v => v = .bool true
  | 8, v => v = .bool true
  | 9, v => v = .bool true
  | 10, v => v = .pointer (some ⟨g2, 2, none⟩)
  | 11, v => v = .int .i64 c
  | 12, v => v = .bool true
  | 13, v => v = .bool true
  | 15, v => v = .bool true
  | _, _ => True

set_option maxRecDepth 100000 in
set_option maxHeartbeats 4000000 in
theorem run_r11_3 {FF : Act → World → Prop} {w : World} {g0 g1 g2 : Nat} {a b c : Int} {c0 c1 c3 c5 c6 c7 c8 c9 c10 c11 c13 c14 c15 c16 c17 c18 c19 c20 c21 c22 c23 c24 c25 c26 c27 c28 c29 c30 c31 c32 c33 c34 c35 c36 c37 c38 c39 c40 c41 c42 c43 c44 c45 c46 c47 c48 c49 c50 c51 c52 c53 c54 c55 c56 : Value}
    (h0 : Hid (RB w g0 0 0 0)) (h1 : Hid (TBlk 4 w g1 (.bool true))) (h2 : Hid (RB w g2 a b c)) (n02 : g0 < g2) (n01 : g0 < g1) (hab : a ≤ b) (hc : 1 ≤ c)
    (hQ : Hid (∀ (d43 d44 d45 d46 d47 d48 d49 d50 d51 d52 d53 d54 d55 d56 : Value) (w' : World), RB w' g0 a b c → Kp (fun k => k = g0) w w' → FF ⟨#[c0, c1, .pointer (some ⟨g0, 0, none⟩), .bool true, .pointer (some ⟨g1, 0, none⟩), c5, c6, c7, c8, c9, c10, c11, .pointer (some ⟨g2, 0, none⟩), c13, c14, c15, c16, c17, c18, c19, c20, c21, c22, c23, c24, c25, c26, c27, c28, c29, c30, c31, c32, c33, c34, c35, c36, c37, c38, c39, c40, c41, c42, d43, d44, d45, d46, d47, d48, d49, d50, d51, d52, d53, d54, d55, d56], []⟩ w')) :
    Code.wp Tryz.prog ((Tryz.f37.body.bind (regAt 11)).getD .skip) (Nrm FF) ⟨#[c0, c1, .pointer (some ⟨g0, 0, none⟩), c3, .pointer (some ⟨g1, 0, none⟩), c5, c6, c7, c8, c9, c10, c11, .pointer (some ⟨g2, 0, none⟩), c13, c14, c15, c16, c17, c18, c19, c20, c21, c22, c23, c24, c25, c26, c27, c28, c29, c30, c31, c32, c33, c34, c35, c36, c37, c38, c39, c40, c41, c42, c43, c44, c45, c46, c47, c48, c49, c50, c51, c52, c53, c54, c55, c56], []⟩ w := by
  have dab : decide (a ≤ b) = true := decide_eq_true hab
  have dc : decide (1 ≤ c) = true := decide_eq_true hc
  conv => arg 2; whnf
  refine wp_region_alv (Wd := fun L _ w1 => RWd w g0 a b c L w1) (Pv := rv11_3 g0 g1 g2 a b c) (by kernel_rfl) (by kernel_rfl) ?_ ?_ ?_
  · intro L V hL
    exact ⟨fun h => (by rw [hL 14] at h; cases h), fun _ => h0.out.below (drew_below w), Kp.of_below (drew_below w)⟩
  · refine ⟨?_, ?_, ?_, ?_, ?_, ?_, ?_, ?_, ?_, ?_, ?_, ?_, ?_, ?_, ?_, ?_, trivial⟩
    · intro ac w1 L hL hup hcl hW hdd hk Kx hK
      have h2w := h2.out.kp hW.2.2 (by omega)
      refine yes (want_n rfl) (wp_load_row 64 _ rfl g2 (get_keep (hk 12 (no_dst (by kernel_rfl))) rfl) 64 _ (0, 0) _ h2w Tryz.underlying64 rfl info50s ?_)
      exact hK _ _ (fun _ => rfl) (fun L2 V2 i1 i2 i3 i4 => ⟨fun h => hW.1 (by rw [← i2 14 (by decide)]; exact h), fun h => hW.2.1 (by rw [← i2 14 (by decide)]; exact h), hW.2.2⟩)
    · intro ac w1 L hL hup hcl hW hdd hk Kx hK
      have e4 : ac.tmps[4]?.getD undef = (.pointer (some ⟨g1, 0, none⟩) : Value) := slot (get_keep (hk 4 (no_dst (by kernel_rfl))) rfl)
      have h1w := h1.out.kp hW.2.2 (by omega)
      have y0 := h1w.cell
      refine yes (want_n rfl) ?_
      have hv := hid (hK (.bool true) w1 (fun _ => rfl) (fun L2 V2 i1 i2 i3 i4 => ⟨fun h => hW.1 (by rw [← i2 14 (by decide)]; exact h), fun h => hW.2.1 (by rw [← i2 14 (by decide)]; exact h), hW.2.2⟩))
      clear hK hW hL hup hdd hk hcl
      go_simp
      exact kq hv.out rfl
    · intro ac w1 L hL hup hcl hW hdd hk Kx hK
      refine yes (want_n rfl) (wp_mv _ rfl _ (hdd 1 _ 44 rfl rfl rfl) ?_)
      exact hK _ _ (fun _ => rfl) (fun L2 V2 i1 i2 i3 i4 => ⟨fun h => hW.1 (by rw [← i2 14 (by decide)]; exact h), fun h => hW.2.1 (by rw [← i2 14 (by decide)]; exact h), hW.2.2⟩)
    · intro ac w1 L hL hup hcl hW hdd hk Kx hK
      have e12 : ac.tmps[12]?.getD undef = (.pointer (some ⟨g2, 0, none⟩) : Value) := slot (get_keep (hk 12 (no_dst (by kernel_rfl))) rfl)
      refine yes (want_g rfl rfl (hdd 2 _ 45 rfl rfl rfl)) ?_
      have hv := hid (hK (.pointer (some ⟨g2, 0, none⟩)) w1 (fun _ => rfl) (fun L2 V2 i1 i2 i3 i4 => ⟨fun h => hW.1 (by rw [← i2 14 (by decide)]; exact h), fun h => hW.2.1 (by rw [← i2 14 (by decide)]; exact h), hW.2.2⟩))
      clear hK hW hL hup hdd hk hcl
      go_simp
      exact kq hv.out rfl
    · intro ac w1 L hL hup hcl hW hdd hk Kx hK
      have e46 : ac.tmps[46]?.getD undef = (.pointer (some ⟨g2, 0, none⟩) : Value) := slot (hdd 3 _ 46 rfl rfl rfl)
      have h2w := h2.out.kp hW.2.2 (by omega)
      obtain ⟨x0, x1, x2⟩ := h2w.cells
      refine yes (want_g rfl rfl (hdd 2 _ 45 rfl rfl rfl)) ?_
      have hv := hid (hK (.int .i64 a) w1 (fun _ => rfl) (fun L2 V2 i1 i2 i3 i4 => ⟨fun h => hW.1 (by rw [← i2 14 (by decide)]; exact h), fun h => hW.2.1 (by rw [← i2 14 (by decide)]; exact h), hW.2.2⟩))
      clear hK hW hL hup hdd hk hcl
      go_simp
      exact kq hv.out rfl
    · intro ac w1 L hL hup hcl hW hdd hk Kx hK
      have e12 : ac.tmps[12]?.getD undef = (.pointer (some ⟨g2, 0, none⟩) : Value) := slot (get_keep (hk 12 (no_dst (by kernel_rfl))) rfl)
      refine yes (want_g rfl rfl (hdd 2 _ 45 rfl rfl rfl)) ?_
      have hv := hid (hK (.pointer (some ⟨g2, 1, none⟩)) w1 (fun _ => rfl) (fun L2 V2 i1 i2 i3 i4 => ⟨fun h => hW.1 (by rw [← i2 14 (by decide)]; exact h), fun h => hW.2.1 (by rw [← i2 14 (by decide)]; exact h), hW.2.2⟩))
      clear hK hW hL hup hdd hk hcl
      go_simp
      exact kq hv.out rfl
    · intro ac w1 L hL hup hcl hW hdd hk Kx hK
      have e48 : ac.tmps[48]?.getD undef = (.pointer (some ⟨g2, 1, none⟩) : Value) := slot (hdd 5 _ 48 rfl rfl rfl)
      have h2w := h2.out.kp hW.2.2 (by omega)
      obtain ⟨x0, x1, x2⟩ := h2w.cells
      refine yes (want_g rfl rfl (hdd 2 _ 45 rfl rfl rfl)) ?_
      have hv := hid (hK (.int .i64 b) w1 (fun _ => rfl) (fun L2 V2 i1 i2 i3 i4 => ⟨fun h => hW.1 (by rw [← i2 14 (by decide)]; exact h), fun h => hW.2.1 (by rw [← i2 14 (by decide)]; exact h), hW.2.2⟩))
      clear hK hW hL hup hdd hk hcl
      go_simp
      exact kq hv.out rfl
    · intro ac w1 L hL hup hcl hW hdd hk Kx hK
      have e47 : ac.tmps[47]?.getD undef = (.int .i64 a : Value) := slot (hdd 4 _ 47 rfl rfl rfl)
      have e49 : ac.tmps[49]?.getD undef = (.int .i64 b : Value) := slot (hdd 6 _ 49 rfl rfl rfl)
      refine yes (want_g rfl rfl (hdd 2 _ 45 rfl rfl rfl)) ?_
      have hv := hid (hK (.bool true) w1 (fun _ => rfl) (fun L2 V2 i1 i2 i3 i4 => ⟨fun h => hW.1 (by rw [← i2 14 (by decide)]; exact h), fun h => hW.2.1 (by rw [← i2 14 (by decide)]; exact h), hW.2.2⟩))
      clear hK hW hL hup hdd hk hcl
      go_simp
      exact kq hv.out rfl
    · intro ac w1 L hL hup hcl hW hdd hk Kx hK
      refine yes (want_n rfl) (wp_pick _ _ _ rfl true _ (hdd 2 _ 45 rfl rfl rfl) (hdd 7 _ 50 rfl rfl rfl) ?_)
      exact hK _ _ (fun _ => rfl) (fun L2 V2 i1 i2 i3 i4 => ⟨fun h => hW.1 (by rw [← i2 14 (by decide)]; exact h), fun h => hW.2.1 (by rw [← i2 14 (by decide)]; exact h), hW.2.2⟩)
    · intro ac w1 L hL hup hcl hW hdd hk Kx hK
      refine yes (want_n rfl) (wp_mv _ rfl _ (hdd 8 _ 51 rfl rfl rfl) ?_)
      exact hK _ _ (fun _ => rfl) (fun L2 V2 i1 i2 i3 i4 => ⟨fun h => hW.1 (by rw [← i2 14 (by decide)]; exact h), fun h => hW.2.1 (by rw [← i2 14 (by decide)]; exact h), hW.2.2⟩)
    · intro ac w1 L hL hup hcl hW hdd hk Kx hK
      have e12 : ac.tmps[12]?.getD undef = (.pointer (some ⟨g2, 0, none⟩) : Value) := slot (get_keep (hk 12 (no_dst (by kernel_rfl))) rfl)
      refine yes (want_g rfl rfl (hdd 9 _ 52 rfl rfl rfl)) ?_
      have hv := hid (hK (.pointer (some ⟨g2, 2, none⟩)) w1 (fun _ => rfl) (fun L2 V2 i1 i2 i3 i4 => ⟨fun h => hW.1 (by rw [← i2 14 (by decide)]; exact h), fun h => hW.2.1 (by rw [← i2 14 (by decide)]; exact h), hW.2.2⟩))
      clear hK hW hL hup hdd hk hcl
      go_simp
      exact kq hv.out rfl
    · intro ac w1 L hL hup hcl hW hdd hk Kx hK
      have e53 : ac.tmps[53]?.getD undef = (.pointer (some ⟨g2, 2, none⟩) : Value) := slot (hdd 10 _ 53 rfl rfl rfl)
      have h2w := h2.out.kp hW.2.2 (by omega)
      obtain ⟨x0, x1, x2⟩ := h2w.cells
      refine yes (want_g rfl rfl (hdd 9 _ 52 rfl rfl rfl)) ?_
      have hv := hid (hK (.int .i64 c) w1 (fun _ => rfl) (fun L2 V2 i1 i2 i3 i4 => ⟨fun h => hW.1 (by rw [← i2 14 (by decide)]; exact h), fun h => hW.2.1 (by rw [← i2 14 (by decide)]; exact h), hW.2.2⟩))
      clear hK hW hL hup hdd hk hcl
      go_simp
      exact kq hv.out rfl
    · intro ac w1 L hL hup hcl hW hdd hk Kx hK
      have e54 : ac.tmps[54]?.getD undef = (.int .i64 c : Value) := slot (hdd 11 _ 54 rfl rfl rfl)
      refine yes (want_g rfl rfl (hdd 9 _ 52 rfl rfl rfl)) ?_
      have hv := hid (hK (.bool true) w1 (fun _ => rfl) (fun L2 V2 i1 i2 i3 i4 => ⟨fun h => hW.1 (by rw [← i2 14 (by decide)]; exact h), fun h => hW.2.1 (by rw [← i2 14 (by decide)]; exact h), hW.2.2⟩))
      clear hK hW hL hup hdd hk hcl
      go_simp
      exact kq hv.out rfl
    · intro ac w1 L hL hup hcl hW hdd hk Kx hK
      refine yes (want_n rfl) (wp_pick _ _ _ rfl true _ (hdd 9 _ 52 rfl rfl rfl) (hdd 12 _ 55 rfl rfl rfl) ?_)
      exact hK _ _ (fun _ => rfl) (fun L2 V2 i1 i2 i3 i4 => ⟨fun h => hW.1 (by rw [← i2 14 (by decide)]; exact h), fun h => hW.2.1 (by rw [← i2 14 (by decide)]; exact h), hW.2.2⟩)
    · intro ac w1 L hL hup hcl hW hdd hk Kx hK
      have hz := hW.2.1 hL
      refine yes (want_n rfl) (wp_store_row 64 _ _ rfl g0 _ (get_keep (hk 2 (no_dst (by kernel_rfl))) rfl) (hdd 0 _ 43 rfl rfl rfl) 64 _ hz info50s rfl (by simp [Value.oneCell']) ?_)
      refine hK _ _ (fun h => absurd rfl h) (fun L2 V2 i1 i2 i3 i4 => ⟨fun _ => ?_, fun h => absurd (h.symm.trans i1) (by decide), kp_setRow hW.2.2 rfl _⟩)
      unfold RB
      exact setRow_heap _ g0 _ _ 64 _ hz
    · intro ac w1 L hL hup hcl hW hdd hk Kx hK
      refine yes (want_n rfl) (wp_as _ rfl _ (hdd 13 _ 56 rfl rfl rfl) ?_)
      exact hK _ _ (fun _ => rfl) (fun L2 V2 i1 i2 i3 i4 => ⟨fun h => hW.1 (by rw [← i2 14 (by decide)]; exact h), fun h => hW.2.1 (by rw [← i2 14 (by decide)]; exact h), hW.2.2⟩)
  · intro ac w1 hdf hsz hkp hval hW
    obtain ⟨L, hall, hW⟩ := hW
    obtain ⟨ff, hf⟩ : ∃ ff, ff = fun d => ac.tmps.getD d undef := ⟨_, rfl⟩
    have h3 : ff 3 = .bool true := by rw [hf]; exact hval 15 _ 3 rfl rfl
    have hfa := act_filled hdf hsz hkp
    rw [← hf] at hfa
    rw [hfa]
    clear hdf hsz hkp hval hfa hf
    clear ac
    simp only [fillAll, List.set_cons_zero, List.set_cons_succ, h3]
    exact hQ.out _ _ _ _ _ _ _ _ _ _ _ _ _ _ w1 (hW.1 (hall 14 (by decide))) hW.2.2

set_option maxRecDepth 100000 in
theorem run_r11 {FF : Act → World → Prop} {w : World} {g0 g1 g2 : Nat} {a b c : Int} {ok : Bool} {c0 c1 c3 c5 c6 c7 c8 c9 c10 c11 c13 c14 c15 c16 c17 c18 c19 c20 c21 c22 c23 c24 c25 c26 c27 c28 c29 c30 c31 c32 c33 c34 c35 c36 c37 c38 c39 c40 c41 c42 c43 c44 c45 c46 c47 c48 c49 c50 c51 c52 c53 c54 c55 c56 : Value}
    (h0 : Hid (RB w g0 0 0 0)) (h1 : Hid (TBlk 4 w g1 (.bool ok))) (h2 : Hid (RB w g2 a b c)) (n02 : g0 < g2) (n01 : g0 < g1)
    (hQ : Hid (∀ (d43 d44 d45 d46 d47 d48 d49 d50 d51 d52 d53 d54 d55 d56 : Value) (w' : World), RB w' g0 a b c → Kp (fun k => k = g0) w w' → FF ⟨#[c0, c1, .pointer (some ⟨g0, 0, none⟩), .bool (ok && decide (a ≤ b) && decide (1 ≤ c)), .pointer (some ⟨g1, 0, none⟩), c5, c6, c7, c8, c9, c10, c11, .pointer (some ⟨g2, 0, none⟩), c13, c14, c15, c16, c17, c18, c19, c20, c21, c22, c23, c24, c25, c26, c27, c28, c29, c30, c31, c32, c33, c34, c35, c36, c37, c38, c39, c40, c41, c42, d43, d44, d45, d46, d47, d48, d49, d50, d51, d52, d53, d54, d55, d56], []⟩ w')) :
    Code.wp Tryz.prog ((Tryz.f37.body.bind (regAt 11)).getD .skip) (Nrm FF) ⟨#[c0, c1, .pointer (some ⟨g0, 0, none⟩), c3, .pointer (some ⟨g1, 0, none⟩), c5, c6, c7, c8, c9, c10, c11, .pointer (some ⟨g2, 0, none⟩), c13, c14, c15, c16, c17, c18, c19, c20, c21, c22, c23, c24, c25, c26, c27, c28, c29, c30, c31, c32, c33, c34, c35, c36, c37, c38, c39, c40, c41, c42, c43, c44, c45, c46, c47, c48, c49, c50, c51, c52, c53, c54, c55, c56], []⟩ w := by
  cases ok
  · exact run_r11_0 h0 h1 h2 n02 n01 hQ
  · by_cases hab : a ≤ b
    · rw [show decide (a ≤ b) = true from decide_eq_true hab] at hQ
      by_cases hc : 1 ≤ c
      · rw [show decide (1 ≤ c) = true from decide_eq_true hc] at hQ
        exact run_r11_3 h0 h1 h2 n02 n01 hab hc hQ
      · rw [show decide (1 ≤ c) = false from decide_eq_false hc] at hQ
        exact run_r11_2 h0 h1 h2 n02 n01 hab hc hQ
    · rw [show decide (a ≤ b) = false from decide_eq_false hab] at hQ
      exact run_r11_1 h0 h1 h2 n02 n01 hab hQ

end Go.Proofs.YtomdghodbkhkaaaGreatDoor
