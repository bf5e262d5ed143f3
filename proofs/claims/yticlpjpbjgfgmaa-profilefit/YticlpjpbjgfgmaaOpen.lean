/- The document's Open: the nodes that are open for an ask at a time. -/
import Derived.Test.YticlpjpbjgfgmaaFx
namespace Go.Proofs.Yticlpjpbjgfgmaa
open Go.RowKit

set_option maxRecDepth 100000 in
set_option maxHeartbeats 1600000 in
theorem open_any (a : Option Addr) (n c0 : Nat) (L : List Nd1) (A : AskP) (ba : Option Addr) (bn bc0 : Nat) (t : Int) (w : World) (hn : L.length = n) (hs : ∀ x ∈ L, x.C.length ≤ 4611686018427387904) (hat : PAt w a L) (hbn : A.bs.length = bn) (hbs : ∀ b ∈ A.bs, b.nodes < 4294967296) (hnd : A.nodes < 4294967296) (hba : BAt w ba A.bs)
    (h1 : RightPr (cutsOf L)) (h2 : RightAsk A) (ht0 : 0 ≤ t) (ht1 : t ≤ 1099511627776) :
    Calls Try.prog 52 #[.slice a n c0, A.val ba bn bc0, .int .i64 t] w fun e w' => e = .returned (.int .u32 (opn (cutsOf L) A t : Int)) ∧ Below w.heap.size w w' := by
  have hask := ABlk.new w A ba bn bc0
  have b0 := below_lit w (.cells (A.cells ba bn bc0) 44)
  have hP32 : (cutsOf L).length ≤ 32 := h1.2.1
  have hn32 : n ≤ 32 := by have := h1.2.1; rw [cutsOf_len, hn] at this; exact this
  have hbl : bn ≤ 4096 := by rw [← hbn]; exact h2.2.2.2.2.1
  have hlim := h2.2.2.1
  have hw : IntKind.i64.wrap (t + A.limit) = t + A.limit := by rw [IntKind.wrap_i64]; omega
  have kF := rfree_any a n c0 L A.nodes t (t + A.limit) A.cores _ hn (by omega) hs hnd (hat.below b0)
  rw [show freeA (cutsOf L) A.nodes t (t + A.limit) A.cores = (mB (cutsOf L) A t 0, 0) from if_pos ⟨h1, by omega, by omega, by omega⟩] at kF
  have e1 := hask.c1
  have e2 := hask.c2
  have e4 := hask.c4
  have hmB := hid (mB_opn (P := cutsOf L) (A := A) (t := t) hP32 hbs)
  rw [hbn] at hmB
  rw [show A.val ba bn bc0 = .agg (A.cells ba bn bc0) from rfl]
  have hba0 := hid (hba.below b0)
  replace hask := hid hask
  replace hn := hid hn
  replace hbn := hid hbn
  replace hbs := hid hbs
  replace h1 := hid h1
  replace h2 := hid h2
  clear hba hat hs
  go_enter Try.func52, Try.ntmps52
  go_wp2_with fail
  generalize w.alloc (.cells (A.cells ba bn bc0) 44) = wa at *
  refine kF.mono ?_
  rintro e w1 ⟨rfl, hb1⟩
  clear e1 e2 e4 kF
  go_wp2_with fail
  go_loopw [7, 9] (fun v i wr => ∃ j : Nat, j ≤ bn ∧ v = .int .u32 (mB (cutsOf L) A t j : Int) ∧ i = .int .i64 (j : Int) ∧ Below w1.heap.size w1 wr) (fun _ i _ => bn - (intOf i).toNat)
  case atStart => exact ⟨0, Nat.zero_le _, rfl, rfl, Below.refl _ _⟩
  case round =>
    obtain ⟨j, hj, rfl, rfl, hbw⟩ := hrel
    have Bw := bnext hb1 hbw
    have haskw := hask.out.below Bw
    have e2 := haskw.c2
    have e5 := haskw.c5
    by_cases hlt : j < bn
    · have hjB : j < A.bs.length := by rw [hbn.out]; exact hlt
      obtain ⟨b2, o2, e⟩ := hba0.out.place (by omega)
      subst e
      obtain ⟨x0, x1, x2⟩ := (hba0.out.below Bw).one hjB
      have hb32 := hbs.out _ (List.getElem_mem hjB)
      rw [bk_eq hjB] at x0 x1 x2 hb32
      have hmlt := mB_lt (P := cutsOf L) (A := A) (t := t) hP32 j
      have kM := fun w => minusr_any (mB (cutsOf L) A t j) (bk A.bs j).nodes hmlt hb32 w
      have hmy := hid (fun h => mB_yes (P := cutsOf L) (A := A) (t := t) (j := j) h)
      have hmn := hid (fun h => mB_no (P := cutsOf L) (A := A) (t := t) (j := j) h)
      have hmeet := hid (show meets (bk A.bs j) A t ↔ (bk A.bs j).f < t + A.limit ∧ t < (bk A.bs j).t from Iff.rfl)
      generalize mB (cutsOf L) A t j = S at *
      generalize hnx : mB (cutsOf L) A t (j + 1) = S2 at *
      replace hnx := hid hnx
      generalize (bk A.bs j).nodes = X0 at *
      generalize (bk A.bs j).f = X1 at *
      generalize (bk A.bs j).t = X2 at *
      obtain ⟨z0, z1, z2⟩ := cells3 (w := wr) (.int .u32 (X0 : Int)) (.int .i64 X1) (.int .i64 X2)
      have bl := below_lit wr (.cells #[.int .u32 (X0 : Int), .int .i64 X1, .int .i64 X2] 51)
      have hbw2 := bnext hbw bl
      have e2' := (haskw.below bl).c2
      clear haskw
      generalize S &&& (4294967295 - X0) = SM at *
      by_cases k1 : X1 < t + A.limit
      · have d1 : decide (X1 < t + A.limit) = true := decide_eq_true k1
        by_cases k2 : t < X2
        · have d2 : decide (t < X2) = true := decide_eq_true k2
          have hS2 := hid (hmy.out (hmeet.out.2 ⟨k1, k2⟩))
          go_wp2_with fail
          refine (kM _).mono ?_
          rintro e w3 ⟨rfl, hb3⟩
          have hbw3 := bnext hbw2 hb3
          go_wp2_with fail
          go_roundw
          case rel => exact ⟨j + 1, by omega, by rw [hnx.out, hS2.out], by go_num, hbw3⟩
          case measure => simp [intOf]; omega
        · have d2 : decide (t < X2) = false := decide_eq_false k2
          have hS2 := hid (hmn.out fun h => k2 (hmeet.out.1 h).2)
          go_wp2_with fail
          go_roundw
          case rel => exact ⟨j + 1, by omega, by rw [hnx.out, hS2.out], by go_num, hbw2⟩
          case measure => simp [intOf]; omega
      · have d1 : decide (X1 < t + A.limit) = false := decide_eq_false k1
        have hS2 := hid (hmn.out fun h => k1 (hmeet.out.1 h).1)
        go_wp2_with fail
        go_roundw
        case rel => exact ⟨j + 1, by omega, by rw [hnx.out, hS2.out], by go_num, hbw2⟩
        case measure => simp [intOf]; omega
    · have hje : bn = j := by omega
      subst hje
      have B2 := bnext b0 Bw
      go_wp2
      go_ret
      rw [← hmB.out]; exact ⟨rfl, B2⟩

end Go.Proofs.Yticlpjpbjgfgmaa
