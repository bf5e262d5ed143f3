/- slices.swapRangeCmpFunc and rotateCmpFunc of places. -/
import Derived.Shelf.SlSortCmp.KitK
import Derived.Sort.WalkB2
import Derived.Sort.WalkB12
import Derived.Deep.LoopGhost
import Derived.BigRegion
import Derived.Test.YtflapjehkgefdaaGreatStb
import Derived.Test.YtflapjehkgefdaaGreatMem
namespace Go.Proofs.YtflapjehkgefdaaGreat
open Go.Shelf Go.RowKit Go.Lib Go.Sort
set_option linter.unusedVariables false
abbrev Plc := Int × Int
def plc (x : Plc) : List Value := [.int .i64 x.1, .int .i64 x.2]
variable {w0 W : World} {blk off : Nat} {d0 dk : Array Plc}

/-- The cells of one place. -/
structure PC (W : World) (blk p : Nat) (x : Plc) : Prop where
  c0 : W.cell? ⟨blk, p, none⟩ = some (.int .i64 x.1)
  c1 : W.cell? ⟨blk, p + 1, none⟩ = some (.int .i64 x.2)
  f0 : W.frozen? ⟨blk, p, none⟩ = false
  f1 : W.frozen? ⟨blk, p + 1, none⟩ = false
theorem pc_of (S : SWK plc 2 w0 blk off dk W) (R : RowK plc 2 w0 blk off d0) (hs : dk.size = d0.size) (i : Nat) (hi : i < dk.size) : PC W blk (off + i * 2) dk[i]! := by
  have h := S.holds R.hblk R.hH hs
  have h0 := h.cell (i := i) (c := 0) hi (by omega)
  have h1 := h.cell (i := i) (c := 1) hi (by omega)
  exact ⟨h0.1, h1.1, h0.2, h1.2⟩

/-- The exchange's four stores. -/
theorem pswap (S : SWK plc 2 w0 blk off dk W) (R : RowK plc 2 w0 blk off d0) (i j : Nat) (hi : i < dk.size) (hj : j < dk.size) {x y : Plc} (hx : dk[i]! = x) (hy : dk[j]! = y) :
    SWK plc 2 w0 blk off (swp dk i j) (((((W.setCell ⟨blk, off + i * 2, none⟩ (.int .i64 y.1)).setCell ⟨blk, off + i * 2 + 1, none⟩ (.int .i64 y.2)).setCell ⟨blk, off + j * 2, none⟩ (.int .i64 x.1)).setCell ⟨blk, off + j * 2 + 1, none⟩ (.int .i64 x.2)).drew) := by
  subst hx hy
  exact S.swapped R i j hi hj

set_option maxHeartbeats 1000000 in
set_option maxRecDepth 100000 in
theorem swapr_any (cap a b n : Nat) (d : Array Plc) (w : World) (fv : Value) (R : RowK plc 2 w0 blk off d0) (hs : d.size = d0.size) (S : SWK plc 2 w0 blk off d w) (hab : a + n ≤ b) (hb : b + n ≤ d.size) (hsz : d.size < 4611686018427387904) :
    Calls Tryz.prog 101 #[.slice (some ⟨blk, off, none⟩) d.size cap, .int .i64 a, .int .i64 b, .int .i64 n, fv] w fun e w' => e = .returned (.tuple #[]) ∧ SWK plc 2 w0 blk off (swapR d a b n) w' := by
  have S0 := hid S
  have HS := hid hs
  clear S hs
  go_enter Tryz.func101, Tryz.ntmps101
  go_wp2
  go_loopg [10] n (fun kx s10 wr => ∃ i : Nat, s10 = .int .i64 i ∧ i ≤ n ∧ n - i ≤ kx ∧ Hid (SWK plc 2 w0 blk off (swapR d a b i) wr))
  case atStart => exact ⟨0, rfl, by omega, by omega, S0⟩
  case round =>
    clear S0
    obtain ⟨i, rfl, hi, hkx, S1⟩ := hrel
    by_cases hlt : i < n
    · have hltz : (i : Int) < (n : Int) := by omega
      have hds : (swapR d a b i).size = d.size := swapR_size _ _ _ _
      go_wp2_with fail
      have ea : ((a : Int) + i).toNat = a + i := by omega
      have eb : ((b : Int) + i).toNat = b + i := by omega
      have pa : (0 : Int) ≤ (a : Int) + i := by omega
      have pb : (0 : Int) ≤ (b : Int) + i := by omega
      have la : (a : Int) + i < (d.size : Int) := by omega
      have lb : (b : Int) + i < (d.size : Int) := by omega
      have ra : IntKind.i64.wrap ((a : Int) + i) = (a : Int) + i := by rw [IntKind.wrap_i64]; omega
      have rb : IntKind.i64.wrap ((b : Int) + i) = (b : Int) + i := by rw [IntKind.wrap_i64]; omega
      have A := pc_of S1.out R (hds.trans HS.out) (a + i) (by omega)
      have B := pc_of S1.out R (hds.trans HS.out) (b + i) (by omega)
      have a0 := A.c0; have a1 := A.c1; have a2 := A.f0; have a3 := A.f1
      have b0 := B.c0; have b1 := B.c1; have b2 := B.f0; have b3 := B.f1
      clear A B
      generalize hX : (swapR d a b i)[a + i]! = X at *
      generalize hY : (swapR d a b i)[b + i]! = Y at *
      go_region
      have S2 := pswap S1.out R (a + i) (b + i) (by omega) (by omega) hX hY
      generalize (((((wr.setCell ⟨blk, off + (a + i) * 2, none⟩ (.int .i64 Y.1)).setCell ⟨blk, off + (a + i) * 2 + 1, none⟩ (.int .i64 Y.2)).setCell ⟨blk, off + (b + i) * 2, none⟩ (.int .i64 X.1)).setCell ⟨blk, off + (b + i) * 2 + 1, none⟩ (.int .i64 X.2)).drew) = w2 at S2 ⊢
      clear a0 a1 a2 a3 b0 b1 b2 b3
      replace S2 := hid S2
      go_wp2
      go_roundg (n - (i + 1))
      case measure => omega
      case rel => exact ⟨i + 1, by simp, by omega, Nat.le_refl _, S2⟩
    · have hin : i = n := by omega
      subst hin
      go_wp2
      go_end0
      exact ⟨rfl, S1.out⟩
end Go.Proofs.YtflapjehkgefdaaGreat
