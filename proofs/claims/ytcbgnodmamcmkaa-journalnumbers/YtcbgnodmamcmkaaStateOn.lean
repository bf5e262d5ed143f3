/- What stateOn answers: the newest state of a disk. -/
import Derived.Test.YtcbgnodmamcmkaaStateOf
namespace Go.Proofs.Ytcbgnodmamcmkaa
open Go.RowKit

/-- Whether a file holds a state that is newer than the one found can be told. -/
def stateDec (l : List UInt8) : Decidable (IsState l) :=
  have := entDec l 0 1048559
  inferInstanceAs (Decidable (EntAt l 0 1048559 ∧ endAt l 0 = l.length ∧ kindAt l 0 = 255))
def newerDec (d : Dsk) (j : Nat) (o : Option Nat) : Decidable (IsState (d.cur (j + 1)) ∧ (∀ f, o = some f → numAt (d.cur f) 0 < numAt (d.cur (j + 1)) 0)) :=
  have := stateDec (d.cur (j + 1))
  match o with
  | none => decidable_of_decidable_of_iff (p := IsState (d.cur (j + 1))) ⟨fun h => ⟨h, fun _ e => by cases e⟩, fun h => h.1⟩
  | some g => decidable_of_decidable_of_iff (p := IsState (d.cur (j + 1)) ∧ numAt (d.cur g) 0 < numAt (d.cur (j + 1)) 0) ⟨fun h => ⟨h.1, fun _ e => by cases e; exact h.2⟩, fun h => ⟨h.1, h.2 g rfl⟩⟩

/-- The file whose state stands, of the first j of files 1 and 2. -/
def stAt (d : Dsk) : Nat → Option Nat
  | 0 => none
  | j + 1 => @ite (Option Nat) (IsState (d.cur (j + 1)) ∧ (∀ f, stAt d j = some f → numAt (d.cur f) 0 < numAt (d.cur (j + 1)) 0)) (newerDec d j (stAt d j)) (some (j + 1)) (stAt d j)

def StBox (W : World) (base : Nat) (d : Dsk) (o : Option Nat) (x y z : Value) : Prop :=
  match o with
  | none => x = .int .i64 0 ∧ y = .int .u8 0 ∧ z = .slice none 0 0
  | some f => x = .int .i64 (numAt (d.cur f) 0 : Int) ∧ y = .int .u8 255 ∧ ∃ ba bc, z = .slice ba (sizeAt (d.cur f) 0 - 9) bc ∧ Own W base z (bodyAt (d.cur f) 0)

theorem StBox.below {W W' : World} {base : Nat} {d : Dsk} {o : Option Nat} {x y z : Value} (h : StBox W base d o x y z) (hb : Below W.heap.size W W') : StBox W' base d o x y z := by
  cases o with
  | none => exact h
  | some f =>
    obtain ⟨h1, h2, ba, bc, h3, h4⟩ := h
    exact ⟨h1, h2, ba, bc, h3, h4.below hb⟩
theorem StBox.kp {S : Nat → Prop} {W W' : World} {base : Nat} {d : Dsk} {o : Option Nat} {x y z : Value} (h : StBox W base d o x y z) (hk : Kp S W W') (hS : ∀ k, S k → k < base) : StBox W' base d o x y z := by
  cases o with
  | none => exact h
  | some f =>
    obtain ⟨h1, h2, ba, bc, h3, h4⟩ := h
    exact ⟨h1, h2, ba, bc, h3, h4.kp hk (fun k e1 e2 => by have := (h4.lt k e1).1; have := hS k e2; omega)⟩


theorem info3s : (Try.prog.info? 3).map (·.size) = some 1 := by kernel_rfl
theorem ix138_0 (w : World) : (Instr.index 138 (.agg #[.int .i64 1, .int .i64 2]) (.int .i64 0)).run Try.prog w = .ok (.int .i64 1) w := by
  obtain ⟨i, hi, hz⟩ := Option.map_eq_some_iff.1 info3s
  simp [Instr.index, run_underlying Try.underlying138, sizeOf, typeInfo, hi, hz, go_sem]
theorem ix138_1 (w : World) : (Instr.index 138 (.agg #[.int .i64 1, .int .i64 2]) (.int .i64 1)).run Try.prog w = .ok (.int .i64 2) w := by
  obtain ⟨i, hi, hz⟩ := Option.map_eq_some_iff.1 info3s
  simp [Instr.index, run_underlying Try.underlying138, sizeOf, typeInfo, hi, hz, go_sem]
theorem stAt_take {d : Dsk} {j : Nat} (h : IsState (d.cur (j + 1))) (hn : ∀ f, stAt d j = some f → numAt (d.cur f) 0 < numAt (d.cur (j + 1)) 0) : stAt d (j + 1) = some (j + 1) := by
  unfold stAt
  rw [if_pos ⟨h, hn⟩]
theorem stAt_leave {d : Dsk} {j : Nat} (h : ¬ IsState (d.cur (j + 1))) : stAt d (j + 1) = stAt d j := by
  show @ite (Option Nat) _ (newerDec d j (stAt d j)) _ _ = _
  rw [if_neg (fun e => h e.1)]
theorem stAt_old {d : Dsk} {j f : Nat} (h : stAt d j = some f) (hn : ¬ numAt (d.cur f) 0 < numAt (d.cur (j + 1)) 0) : stAt d (j + 1) = stAt d j := by
  show @ite (Option Nat) _ (newerDec d j (stAt d j)) _ _ = _
  rw [if_neg (fun e => hn (e.2 f h))]

structure SoI (w : World) (d : Dsk) (o : Option Nat) (W : World) : Prop where
  box : ∃ vx vy vz, RBlk W (w.heap.size + 1) vx vy vz ∧ StBox W (w.heap.size + 2) d o vx vy vz
  zero : RBlk W w.heap.size (.int .i64 0) (.int .u8 0) (.slice none 0 0)
  bel : Below w.heap.size w W
  up : w.heap.size + 2 ≤ W.heap.size

theorem SoI.below {w : World} {d : Dsk} {o : Option Nat} {W W' : World} (h : SoI w d o W) (hb : Below W.heap.size W W') : SoI w d o W' := by
  obtain ⟨vx, vy, vz, h1, h2⟩ := h.box
  exact ⟨⟨vx, vy, vz, h1.below hb, h2.below hb⟩, h.zero.below hb, bnext h.bel hb, Nat.le_trans h.up hb.size⟩

theorem StBox.le {W : World} {base b : Nat} {d : Dsk} {o : Option Nat} {x y z : Value} (h : StBox W base d o x y z) (hb : b ≤ base) : StBox W b d o x y z := by
  cases o with
  | none => exact h
  | some f =>
    obtain ⟨h1, h2, ba, bc, h3, h4⟩ := h
    exact ⟨h1, h2, ba, bc, h3, h4.le hb⟩

theorem SoI.take {w : World} {d : Dsk} {o : Option Nat} {W W' : World} {f M SZ bc : Nat} {ba : Option Addr} (h : SoI w d o W)
    (hset : RBlk W' (w.heap.size + 1) (.int .i64 (M : Int)) (.int .u8 255) (.slice ba SZ bc)) (hk : Kp (fun k => k = w.heap.size + 1) W W') (ho : Own W (w.heap.size + 2) (.slice ba SZ bc) (bodyAt (d.cur f) 0)) (hM : M = numAt (d.cur f) 0) (hSZ : SZ = sizeAt (d.cur f) 0 - 9) : SoI w d (some f) W' := by
  subst hM; subst hSZ
  have hb : Below w.heap.size W W' := hk.below (fun k e => by omega) h.bel.size
  refine ⟨⟨_, _, _, hset, rfl, rfl, ba, bc, rfl, ho.kp hk (fun k e1 e2 => by have := (ho.lt k e1).1; omega)⟩, ?_, h.bel.trans hb, Nat.le_trans h.up hk.size⟩
  unfold RBlk
  rw [hk.block _ h.zero.lt (by omega)]
  exact h.zero

set_option maxRecDepth 100000 in
set_option maxHeartbeats 8000000 in
theorem stateon_any (base p : Nat) (x : Dx) (d : Dsk) (w : World) (hs : Sole base w p x d) (hdn : d.down = false) :
    Calls Try.prog 42 #[.pointer (some ⟨p, 0, none⟩)] w fun e w' => ∃ vx vy vz, e = .returned (.tuple #[.agg #[vx, vy, vz], .int .i64 ((stAt d 2).getD 2 : Int), .int .i64 0]) ∧ StBox w' w.heap.size d (stAt d 2) vx vy vz ∧ Below w.heap.size w w' := by
  have E1 : d.readE 1 = 0 := by unfold Dsk.readE; rw [hdn]; rfl
  have E2 : d.readE 2 = 0 := by unfold Dsk.readE; rw [hdn]; rfl
  have L1 : d.readB 1 = d.cur 1 := by unfold Dsk.readB; rw [hdn]; rfl
  have L2 : d.readB 2 = d.cur 2 := by unfold Dsk.readB; rw [hdn]; rfl
  have S1 := hs.inv.curShort 1 (by omega)
  have S2 := hs.inv.curShort 2 (by omega)
  have b0 := below_lit w (.cells #[.int .i64 0, .int .u8 0, .slice none 0 0] 27)
  have z0 := RBlk.new w (.int .i64 0) (.int .u8 0) (.slice none 0 0)
  have b1 := below_lit (w.alloc (.cells #[.int .i64 0, .int .u8 0, .slice none 0 0] 27)) (.cells #[.int .i64 0, .int .u8 0, .slice none 0 0] 27)
  have z1 := RBlk.new (w.alloc (.cells #[.int .i64 0, .int .u8 0, .slice none 0 0] 27)) (.int .i64 0) (.int .u8 0) (.slice none 0 0)
  have hI0 : SoI w d none ((w.alloc (.cells #[.int .i64 0, .int .u8 0, .slice none 0 0] 27)).alloc (.cells #[.int .i64 0, .int .u8 0, .slice none 0 0] 27)) := ⟨⟨_, _, _, by rw [World.size_alloc] at z1; exact z1, rfl, rfl, rfl⟩, z0.below b1, bnext b0 b1, by simp [World.size_alloc]⟩
  replace E1 := hid E1
  replace E2 := hid E2
  replace L1 := hid L1
  replace L2 := hid L2
  replace hdn := hid hdn
  replace hs := hid hs
  clear b0 z0 b1 z1
  go_enter Try.func42, Try.ntmps42
  go_wp2_with fail
  go_loopw [6, 7, 16] (fun f fd i wr => ∃ (j : Nat) (o : Option Nat), j ≤ 2 ∧ Hid (o = stAt d j) ∧ f = .int .i64 (o.getD 2 : Nat) ∧ fd = .bool o.isSome ∧ i = .int .i64 j ∧ SoI w d o wr) (fun _ _ i _ => 2 - (intOf i).toNat)
  case atStart => exact ⟨0, none, by omega, hid rfl, rfl, rfl, rfl, hI0⟩
  case round =>
    clear hI0
    obtain ⟨j, o, hj, ho, hf, hfd, hi, hI⟩ := hrel
    by_cases hlt : j < 2
    · obtain rfl | rfl : j = 0 ∨ j = 1 := by omega
      · obtain rfl : o = none := ho.out
        have hf' : _ = Value.int .i64 2 := hf
        have hfd' : _ = Value.bool false := hfd
        subst hf'; subst hfd'; clear hf hfd
        have hi' : _ = Value.int .i64 0 := hi
        subst hi'; clear hi
        have hrd := read_sole base p x d 1 0 (d.cur 1) _ _ (hs.out.below hI.bel) E1.out L1.out rfl
        obtain ⟨N, hN⟩ : ∃ N, N = (d.cur 1).length := ⟨_, rfl⟩
        rw [← hN] at hrd
        have hN' := hid hN
        clear hN
        have hI' := hid hI
        clear hI
        have hix := ix138_0 wr
        by_cases hst : IsState (d.cur 1)
        · have hx0 := hid hst
          go_wp2_with fail
          refine hrd.mono ?_
          rintro e w1 ⟨ra, rc, rfl, ro, rb⟩
          have hI1 := hI'.out.below rb
          have hNl : N ≤ 140737488355328 := by have := hN'.out; omega
          have hcap : N ≤ rc := by obtain ⟨a', c', e, hc, _⟩ := ro.form; injection e with _ e2 e3; omega
          have hso := stateof_yes ra N rc (d.cur 1) w1 hN'.out.symm hNl hcap ro.at hx0.out
          obtain ⟨M, hM⟩ : ∃ M, M = numAt (d.cur 1) 0 := ⟨_, rfl⟩
          obtain ⟨SZ, hSZ⟩ : ∃ SZ, SZ = sizeAt (d.cur 1) 0 - 9 := ⟨_, rfl⟩
          rw [← hM, ← hSZ] at hso
          replace hM := hid hM
          replace hSZ := hid hSZ
          replace hcap := hid hcap
          clear hI'
          go_wp2_with fail
          refine hso.mono ?_
          rintro e w2 ⟨ba, bc, rfl, so, sb⟩
          have hI2 := hI1.below sb
          have bl := below_lit w2 (.cells #[.int .i64 (M : Int), .int .u8 255, .slice ba SZ bc] 27)
          have hX := RBlk.new w2 (.int .i64 (M : Int)) (.int .u8 255) (.slice ba SZ bc)
          have hI3 := hI2.below bl
          have x0 := hX.cell0
          have x1 := hX.cell1
          have x2 := hX.cell2
          obtain ⟨vx, vy, vz, hR5, hSt⟩ := hI3.box
          have y0 := hR5.cell0
          have y1 := hR5.cell1
          have y2 := hR5.cell2
          have g0 := hR5.free 0
          have g1 := hR5.free 1
          have g2 := hR5.free 2
          have hoS := so.below bl
          have hset := hR5.set (.int .i64 (M : Int)) (.int .u8 255) (.slice ba SZ bc)
          have hkS : Kp (fun k => k = w.heap.size + 1) (w2.alloc (.cells #[.int .i64 (M : Int), .int .u8 255, .slice ba SZ bc] 27)) _ := Kp.setCell (S := fun k => k = w.heap.size + 1) (p := ⟨w.heap.size + 1, 2, none⟩) (Kp.setCell (S := fun k => k = w.heap.size + 1) (p := ⟨w.heap.size + 1, 1, none⟩) (Kp.setCell (S := fun k => k = w.heap.size + 1) (p := ⟨w.heap.size + 1, 0, none⟩) (Kp.refl _ _) rfl (.int .i64 (M : Int))) rfl (.int .u8 255)) rfl (.slice ba SZ bc)
          have hI4 : SoI w d (some 1) _ := hI3.take hset hkS (hoS.le (by have := hI1.up; omega)) hM.out hSZ.out
          replace hI4 := hid hI4
          clear hkS hset hoS
          replace hI3 := hid hI3
          replace hI2 := hid hI2
          replace hI1 := hid hI1
          go_wp2_with fail
          go_roundw
          case rel => exact ⟨1, some 1, by omega, hid (stAt_take hx0.out (fun f e => by rw [← ho.out] at e; cases e)).symm, rfl, rfl, by first | rfl | go_num, hI4.out⟩
          case measure => simp [intOf]
        · have hx0 := hid hst
          go_wp2_with fail
          refine hrd.mono ?_
          rintro e w1 ⟨ra, rc, rfl, ro, rb⟩
          have hI1 := hI'.out.below rb
          have hNl : N ≤ 140737488355328 := by have := hN'.out; omega
          have hcap : N ≤ rc := by obtain ⟨a', c', e, hc, _⟩ := ro.form; injection e with _ e2 e3; omega
          have hso := stateof_no ra N rc (d.cur 1) w1 hN'.out.symm hNl hcap ro.at hx0.out
          replace hcap := hid hcap
          clear hI'
          go_wp2_with fail
          refine hso.mono ?_
          rintro e w2 ⟨rfl, sb⟩
          have hI3 := (hI1.below sb).below (below_lit w2 (.cells #[.int .i64 0, .int .u8 0, .slice none 0 0] 27))
          replace hI3 := hid hI3
          replace hI1 := hid hI1
          go_wp2_with fail
          go_roundw
          case rel => exact ⟨1, _, by omega, hid (ho.out.trans (stAt_leave hx0.out).symm), rfl, rfl, by first | rfl | go_num, hI3.out⟩
          case measure => simp [intOf]
      · cases o with
        | none =>
          have hf' : _ = Value.int .i64 2 := hf
          have hfd' : _ = Value.bool false := hfd
          subst hf'; subst hfd'; clear hf hfd
          have hi' : _ = Value.int .i64 1 := hi
          subst hi'; clear hi
          have hrd := read_sole base p x d 2 0 (d.cur 2) _ _ (hs.out.below hI.bel) E2.out L2.out rfl
          obtain ⟨N, hN⟩ : ∃ N, N = (d.cur 2).length := ⟨_, rfl⟩
          rw [← hN] at hrd
          have hN' := hid hN
          clear hN
          have hI' := hid hI
          clear hI
          have hix := ix138_1 wr
          by_cases hst : IsState (d.cur 2)
          · have hx0 := hid hst
            go_wp2_with fail
            refine hrd.mono ?_
            rintro e w1 ⟨ra, rc, rfl, ro, rb⟩
            have hI1 := hI'.out.below rb
            have hNl : N ≤ 140737488355328 := by have := hN'.out; omega
            have hcap : N ≤ rc := by obtain ⟨a', c', e, hc, _⟩ := ro.form; injection e with _ e2 e3; omega
            have hso := stateof_yes ra N rc (d.cur 2) w1 hN'.out.symm hNl hcap ro.at hx0.out
            obtain ⟨M, hM⟩ : ∃ M, M = numAt (d.cur 2) 0 := ⟨_, rfl⟩
            obtain ⟨SZ, hSZ⟩ : ∃ SZ, SZ = sizeAt (d.cur 2) 0 - 9 := ⟨_, rfl⟩
            rw [← hM, ← hSZ] at hso
            replace hM := hid hM
            replace hSZ := hid hSZ
            replace hcap := hid hcap
            clear hI'
            go_wp2_with fail
            refine hso.mono ?_
            rintro e w2 ⟨ba, bc, rfl, so, sb⟩
            have hI2 := hI1.below sb
            have bl := below_lit w2 (.cells #[.int .i64 (M : Int), .int .u8 255, .slice ba SZ bc] 27)
            have hX := RBlk.new w2 (.int .i64 (M : Int)) (.int .u8 255) (.slice ba SZ bc)
            have hI3 := hI2.below bl
            have x0 := hX.cell0
            have x1 := hX.cell1
            have x2 := hX.cell2
            obtain ⟨vx, vy, vz, hR5, hSt⟩ := hI3.box
            have y0 := hR5.cell0
            have y1 := hR5.cell1
            have y2 := hR5.cell2
            have g0 := hR5.free 0
            have g1 := hR5.free 1
            have g2 := hR5.free 2
            have hoS := so.below bl
            have hset := hR5.set (.int .i64 (M : Int)) (.int .u8 255) (.slice ba SZ bc)
            have hkS : Kp (fun k => k = w.heap.size + 1) (w2.alloc (.cells #[.int .i64 (M : Int), .int .u8 255, .slice ba SZ bc] 27)) _ := Kp.setCell (S := fun k => k = w.heap.size + 1) (p := ⟨w.heap.size + 1, 2, none⟩) (Kp.setCell (S := fun k => k = w.heap.size + 1) (p := ⟨w.heap.size + 1, 1, none⟩) (Kp.setCell (S := fun k => k = w.heap.size + 1) (p := ⟨w.heap.size + 1, 0, none⟩) (Kp.refl _ _) rfl (.int .i64 (M : Int))) rfl (.int .u8 255)) rfl (.slice ba SZ bc)
            have hI4 : SoI w d (some 2) _ := hI3.take hset hkS (hoS.le (by have := hI1.up; omega)) hM.out hSZ.out
            replace hI4 := hid hI4
            clear hkS hset hoS
            replace hI3 := hid hI3
            replace hI2 := hid hI2
            replace hI1 := hid hI1
            go_wp2_with fail
            go_roundw
            case rel => exact ⟨2, some 2, by omega, hid (stAt_take hx0.out (fun f e => by rw [← ho.out] at e; cases e)).symm, rfl, rfl, by first | rfl | go_num, hI4.out⟩
            case measure => simp [intOf]
          · have hx0 := hid hst
            go_wp2_with fail
            refine hrd.mono ?_
            rintro e w1 ⟨ra, rc, rfl, ro, rb⟩
            have hI1 := hI'.out.below rb
            have hNl : N ≤ 140737488355328 := by have := hN'.out; omega
            have hcap : N ≤ rc := by obtain ⟨a', c', e, hc, _⟩ := ro.form; injection e with _ e2 e3; omega
            have hso := stateof_no ra N rc (d.cur 2) w1 hN'.out.symm hNl hcap ro.at hx0.out
            replace hcap := hid hcap
            clear hI'
            go_wp2_with fail
            refine hso.mono ?_
            rintro e w2 ⟨rfl, sb⟩
            have hI3 := (hI1.below sb).below (below_lit w2 (.cells #[.int .i64 0, .int .u8 0, .slice none 0 0] 27))
            replace hI3 := hid hI3
            replace hI1 := hid hI1
            go_wp2_with fail
            go_roundw
            case rel => exact ⟨2, _, by omega, hid (ho.out.trans (stAt_leave hx0.out).symm), rfl, rfl, by first | rfl | go_num, hI3.out⟩
            case measure => simp [intOf]
        | some q =>
          have hf' : _ = Value.int .i64 (q : Int) := hf
          have hfd' : _ = Value.bool true := hfd
          subst hf'; subst hfd'; clear hf hfd
          have hi' : _ = Value.int .i64 1 := hi
          subst hi'; clear hi
          have hrd := read_sole base p x d 2 0 (d.cur 2) _ _ (hs.out.below hI.bel) E2.out L2.out rfl
          obtain ⟨N, hN⟩ : ∃ N, N = (d.cur 2).length := ⟨_, rfl⟩
          rw [← hN] at hrd
          have hN' := hid hN
          clear hN
          have hI' := hid hI
          clear hI
          have hix := ix138_1 wr
          by_cases hst : IsState (d.cur 2)
          · by_cases hq : numAt (d.cur q) 0 < numAt (d.cur 2) 0
            · have hx0 := hid hst
              go_wp2_with fail
              refine hrd.mono ?_
              rintro e w1 ⟨ra, rc, rfl, ro, rb⟩
              have hI1 := hI'.out.below rb
              have hNl : N ≤ 140737488355328 := by have := hN'.out; omega
              have hcap : N ≤ rc := by obtain ⟨a', c', e, hc, _⟩ := ro.form; injection e with _ e2 e3; omega
              have hso := stateof_yes ra N rc (d.cur 2) w1 hN'.out.symm hNl hcap ro.at hx0.out
              obtain ⟨M, hM⟩ : ∃ M, M = numAt (d.cur 2) 0 := ⟨_, rfl⟩
              obtain ⟨SZ, hSZ⟩ : ∃ SZ, SZ = sizeAt (d.cur 2) 0 - 9 := ⟨_, rfl⟩
              rw [← hM, ← hSZ] at hso
              replace hM := hid hM
              replace hSZ := hid hSZ
              replace hcap := hid hcap
              clear hI'
              go_wp2_with fail
              refine hso.mono ?_
              rintro e w2 ⟨ba, bc, rfl, so, sb⟩
              have hI2 := hI1.below sb
              have bl := below_lit w2 (.cells #[.int .i64 (M : Int), .int .u8 255, .slice ba SZ bc] 27)
              have hX := RBlk.new w2 (.int .i64 (M : Int)) (.int .u8 255) (.slice ba SZ bc)
              have hI3 := hI2.below bl
              have x0 := hX.cell0
              have x1 := hX.cell1
              have x2 := hX.cell2
              obtain ⟨vx, vy, vz, hR5, hSt⟩ := hI3.box
              have y0 := hR5.cell0
              have y1 := hR5.cell1
              have y2 := hR5.cell2
              have g0 := hR5.free 0
              have g1 := hR5.free 1
              have g2 := hR5.free 2
              obtain ⟨ex, ey, _⟩ := hSt
              obtain ⟨MO, hMO⟩ : ∃ MO, MO = numAt (d.cur q) 0 := ⟨_, rfl⟩
              rw [← hMO] at ex
              subst ex
              replace hMO := hid hMO
              have hc1 : MO < M := by have := hMO.out; have := hM.out; omega
              have hoS := so.below bl
              have hset := hR5.set (.int .i64 (M : Int)) (.int .u8 255) (.slice ba SZ bc)
              have hkS : Kp (fun k => k = w.heap.size + 1) (w2.alloc (.cells #[.int .i64 (M : Int), .int .u8 255, .slice ba SZ bc] 27)) _ := Kp.setCell (S := fun k => k = w.heap.size + 1) (p := ⟨w.heap.size + 1, 2, none⟩) (Kp.setCell (S := fun k => k = w.heap.size + 1) (p := ⟨w.heap.size + 1, 1, none⟩) (Kp.setCell (S := fun k => k = w.heap.size + 1) (p := ⟨w.heap.size + 1, 0, none⟩) (Kp.refl _ _) rfl (.int .i64 (M : Int))) rfl (.int .u8 255)) rfl (.slice ba SZ bc)
              have hI4 : SoI w d (some 2) _ := hI3.take hset hkS (hoS.le (by have := hI1.up; omega)) hM.out hSZ.out
              replace hI4 := hid hI4
              clear hkS hset hoS
              replace hI3 := hid hI3
              replace hI2 := hid hI2
              replace hI1 := hid hI1
              go_wp2_with fail
              go_roundw
              case rel => exact ⟨2, some 2, by omega, hid (stAt_take hx0.out (fun f e => by rw [← ho.out] at e; cases e; have := hMO.out; have := hM.out; omega)).symm, rfl, rfl, by first | rfl | go_num, hI4.out⟩
              case measure => simp [intOf]
            · have hx0 := hid hst
              go_wp2_with fail
              refine hrd.mono ?_
              rintro e w1 ⟨ra, rc, rfl, ro, rb⟩
              have hI1 := hI'.out.below rb
              have hNl : N ≤ 140737488355328 := by have := hN'.out; omega
              have hcap : N ≤ rc := by obtain ⟨a', c', e, hc, _⟩ := ro.form; injection e with _ e2 e3; omega
              have hso := stateof_yes ra N rc (d.cur 2) w1 hN'.out.symm hNl hcap ro.at hx0.out
              obtain ⟨M, hM⟩ : ∃ M, M = numAt (d.cur 2) 0 := ⟨_, rfl⟩
              obtain ⟨SZ, hSZ⟩ : ∃ SZ, SZ = sizeAt (d.cur 2) 0 - 9 := ⟨_, rfl⟩
              rw [← hM, ← hSZ] at hso
              replace hM := hid hM
              replace hSZ := hid hSZ
              replace hcap := hid hcap
              clear hI'
              go_wp2_with fail
              refine hso.mono ?_
              rintro e w2 ⟨ba, bc, rfl, so, sb⟩
              have hI2 := hI1.below sb
              have bl := below_lit w2 (.cells #[.int .i64 (M : Int), .int .u8 255, .slice ba SZ bc] 27)
              have hX := RBlk.new w2 (.int .i64 (M : Int)) (.int .u8 255) (.slice ba SZ bc)
              have hI3 := hI2.below bl
              have x0 := hX.cell0
              have x1 := hX.cell1
              have x2 := hX.cell2
              obtain ⟨vx, vy, vz, hR5, hSt⟩ := hI3.box
              have y0 := hR5.cell0
              have y1 := hR5.cell1
              have y2 := hR5.cell2
              have g0 := hR5.free 0
              have g1 := hR5.free 1
              have g2 := hR5.free 2
              obtain ⟨ex, ey, _⟩ := hSt
              obtain ⟨MO, hMO⟩ : ∃ MO, MO = numAt (d.cur q) 0 := ⟨_, rfl⟩
              rw [← hMO] at ex
              subst ex
              replace hMO := hid hMO
              have hc1 : ¬ MO < M := by have := hMO.out; have := hM.out; omega
              replace hI3 := hid hI3
              replace hI2 := hid hI2
              replace hI1 := hid hI1
              go_wp2_with fail
              go_roundw
              case rel => exact ⟨2, some q, by omega, hid (by rw [stAt_old ho.out.symm (by have := hMO.out; have := hM.out; omega)]; exact ho.out), rfl, rfl, by first | rfl | go_num, hI3.out⟩
              case measure => simp [intOf]
          · have hx0 := hid hst
            go_wp2_with fail
            refine hrd.mono ?_
            rintro e w1 ⟨ra, rc, rfl, ro, rb⟩
            have hI1 := hI'.out.below rb
            have hNl : N ≤ 140737488355328 := by have := hN'.out; omega
            have hcap : N ≤ rc := by obtain ⟨a', c', e, hc, _⟩ := ro.form; injection e with _ e2 e3; omega
            have hso := stateof_no ra N rc (d.cur 2) w1 hN'.out.symm hNl hcap ro.at hx0.out
            replace hcap := hid hcap
            clear hI'
            go_wp2_with fail
            refine hso.mono ?_
            rintro e w2 ⟨rfl, sb⟩
            have hI3 := (hI1.below sb).below (below_lit w2 (.cells #[.int .i64 0, .int .u8 0, .slice none 0 0] 27))
            replace hI3 := hid hI3
            replace hI1 := hid hI1
            go_wp2_with fail
            go_roundw
            case rel => exact ⟨2, _, by omega, hid (ho.out.trans (stAt_leave hx0.out).symm), rfl, rfl, by first | rfl | go_num, hI3.out⟩
            case measure => simp [intOf]
    · obtain rfl : j = 2 := by omega
      have hi' : _ = Value.int .i64 2 := hi
      subst hi'; subst hf; subst hfd; clear hi
      obtain ⟨vx, vy, vz, hR5, hSt⟩ := hI.box
      have hSt0 := hSt
      cases o with
      | none =>
          obtain ⟨rfl, rfl, rfl⟩ := hSt0
          have y0 := hR5.cell0
          have y1 := hR5.cell1
          have y2 := hR5.cell2
          have z0 := hI.zero.cell0
          have z1 := hI.zero.cell1
          have z2 := hI.zero.cell2
          have g0 := hI.zero.free 0
          have g1 := hI.zero.free 1
          have g2 := hI.zero.free 2
          have hset := hI.zero.set (.int .i64 0) (.int .u8 0) (.slice none 0 0)
          have hkS : Kp (fun k => k = w.heap.size) wr _ := Kp.setCell (S := fun k => k = w.heap.size) (p := ⟨w.heap.size, 2, none⟩) (Kp.setCell (S := fun k => k = w.heap.size) (p := ⟨w.heap.size, 1, none⟩) (Kp.setCell (S := fun k => k = w.heap.size) (p := ⟨w.heap.size, 0, none⟩) (Kp.refl _ _) rfl (.int .i64 0)) rfl (.int .u8 0)) rfl (.slice none 0 0)
          have hbs := ((hI.bel.setCell (p := ⟨w.heap.size, 0, none⟩) (Nat.le_refl _) (.int .i64 0)).setCell (p := ⟨w.heap.size, 1, none⟩) (Nat.le_refl _) (.int .u8 0)).setCell (p := ⟨w.heap.size, 2, none⟩) (Nat.le_refl _) (.slice none 0 0)
          have hStE := (hSt.kp hkS (fun k e => by omega)).le (b := w.heap.size) (by omega)
          replace hset := hid hset
          replace hbs := hid hbs
          replace hStE := hid hStE
          replace hI := hid hI
          replace hSt := hid hSt
          clear hkS
          go_wp2
          (try simp only [Exit.inBlock, Exit.then])
          refine bodyPost_ret (results_rec3 rfl _ _ w.heap.size _ _ _ rfl hset.out) rfl ?_
          have ho' := ho.out
          rw [← ho']
          exact ⟨_, _, _, rfl, hStE.out, hbs.out⟩
      | some q =>
          obtain ⟨e1, e2, ba, bc, e3, _⟩ := hSt0
          obtain ⟨M, hM⟩ : ∃ M, M = numAt (d.cur q) 0 := ⟨_, rfl⟩
          obtain ⟨SZ, hSZ⟩ : ∃ SZ, SZ = sizeAt (d.cur q) 0 - 9 := ⟨_, rfl⟩
          rw [← hM] at e1
          rw [← hSZ] at e3
          subst e1; subst e2; subst e3
          replace hM := hid hM
          replace hSZ := hid hSZ
          have y0 := hR5.cell0
          have y1 := hR5.cell1
          have y2 := hR5.cell2
          have z0 := hI.zero.cell0
          have z1 := hI.zero.cell1
          have z2 := hI.zero.cell2
          have g0 := hI.zero.free 0
          have g1 := hI.zero.free 1
          have g2 := hI.zero.free 2
          have hset := hI.zero.set (.int .i64 (M : Int)) (.int .u8 255) (.slice ba SZ bc)
          have hkS : Kp (fun k => k = w.heap.size) wr _ := Kp.setCell (S := fun k => k = w.heap.size) (p := ⟨w.heap.size, 2, none⟩) (Kp.setCell (S := fun k => k = w.heap.size) (p := ⟨w.heap.size, 1, none⟩) (Kp.setCell (S := fun k => k = w.heap.size) (p := ⟨w.heap.size, 0, none⟩) (Kp.refl _ _) rfl (.int .i64 (M : Int))) rfl (.int .u8 255)) rfl (.slice ba SZ bc)
          have hbs := ((hI.bel.setCell (p := ⟨w.heap.size, 0, none⟩) (Nat.le_refl _) (.int .i64 (M : Int))).setCell (p := ⟨w.heap.size, 1, none⟩) (Nat.le_refl _) (.int .u8 255)).setCell (p := ⟨w.heap.size, 2, none⟩) (Nat.le_refl _) (.slice ba SZ bc)
          have hStE := (hSt.kp hkS (fun k e => by omega)).le (b := w.heap.size) (by omega)
          replace hset := hid hset
          replace hbs := hid hbs
          replace hStE := hid hStE
          replace hI := hid hI
          replace hSt := hid hSt
          clear hkS
          go_wp2
          (try simp only [Exit.inBlock, Exit.then])
          refine bodyPost_ret (results_rec3 rfl _ _ w.heap.size _ _ _ rfl hset.out) rfl ?_
          have ho' := ho.out
          rw [← ho']
          exact ⟨_, _, _, rfl, hStE.out, hbs.out⟩
end Go.Proofs.Ytcbgnodmamcmkaa
