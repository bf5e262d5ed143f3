/- Open of a disk that is down. -/
import Derived.Test.YtcbgnodmamcmkaaOpen
namespace Go.Proofs.Ytcbgnodmamcmkaa
open Go.RowKit

set_option maxRecDepth 100000 in
set_option maxHeartbeats 4000000 in
theorem stateon_down (base p : Nat) (x : Dx) (d : Dsk) (w : World) (hs : Sole base w p x d) (hdn : d.down = true) :
    Calls Try.prog 42 #[.pointer (some ⟨p, 0, none⟩)] w fun e w' => e = .returned (.tuple #[.agg #[.int .i64 0, .int .u8 0, .slice none 0 0], .int .i64 0, .int .i64 6]) ∧ Below w.heap.size w w' := by
  have E1 : d.readE 1 = 6 := by unfold Dsk.readE; rw [hdn]; rfl
  have b0 := below_lit w (.cells #[.int .i64 0, .int .u8 0, .slice none 0 0] 27)
  have z0 := RBlk.new w (.int .i64 0) (.int .u8 0) (.slice none 0 0)
  have b1 := below_lit (w.alloc (.cells #[.int .i64 0, .int .u8 0, .slice none 0 0] 27)) (.cells #[.int .i64 0, .int .u8 0, .slice none 0 0] 27)
  obtain ⟨n, hn⟩ : ∃ n, (d.readB 1).length = n := ⟨_, rfl⟩
  have hrd := read_sole base p x d 1 6 _ n _ ((hs.below b0).below b1) E1 rfl hn
  have hz := z0.below b1
  have bt := bnext b0 b1
  replace hn := hid hn
  replace hdn := hid hdn
  replace E1 := hid E1
  replace hs := hid hs
  replace hz := hid hz
  replace bt := hid bt
  clear b0 z0 b1
  go_enter Try.func42, Try.ntmps42
  go_wp2_with fail
  generalize (w.alloc (.cells #[.int .i64 0, .int .u8 0, .slice none 0 0] 27)).alloc (.cells #[.int .i64 0, .int .u8 0, .slice none 0 0] 27) = w2 at *
  go_loopw [6, 7, 16] (fun f fd i wr => f = .int .i64 2 ∧ fd = .bool false ∧ i = .int .i64 0 ∧ wr = w2) (fun _ _ _ _ => 0)
  case atStart => exact ⟨rfl, rfl, rfl, rfl⟩
  case round =>
    obtain ⟨rfl, rfl, rfl, rfl⟩ := hrel
    have hix := ix138_0 wr
    go_wp2_with fail
    refine hrd.mono ?_
    rintro e w3 ⟨ra, rc, rfl, ro, rb⟩
    have hz3 := hz.out.below rb
    have bt3 := bnext bt.out rb
    have y0 := hz3.cell0
    have y1 := hz3.cell1
    have y2 := hz3.cell2
    have g0 := hz3.free 0
    have g1 := hz3.free 1
    have g2 := hz3.free 2
    have hset := hz3.set (.int .i64 0) (.int .u8 0) (.slice none 0 0)
    have hbs := ((bt3.setCell (p := ⟨w.heap.size, 0, none⟩) (Nat.le_refl _) (.int .i64 0)).setCell (p := ⟨w.heap.size, 1, none⟩) (Nat.le_refl _) (.int .u8 0)).setCell (p := ⟨w.heap.size, 2, none⟩) (Nat.le_refl _) (.slice none 0 0)
    replace hset := hid hset
    replace hbs := hid hbs
    go_wp2
    (try simp only [Exit.inBlock, Exit.then])
    refine bodyPost_ret (results_rec3 rfl _ _ w.heap.size _ _ _ rfl hset.out) rfl ?_
    exact ⟨rfl, hbs.out⟩

theorem open_down (base p : Nat) (x : Dx) (d : Dsk) (w : World) (hs : Sole base w p x d) (hdn : d.down = true) :
    Calls Try.prog 12 #[.pointer (some ⟨p, 0, none⟩)] w fun e w' => e = .returned (.tuple #[.pointer none, .slice none 0 0, .slice none 0 0, .int .i64 6]) ∧ Below w.heap.size w w' := by
  have hso := stateon_down base p x d w hs hdn
  replace hdn := hid hdn
  go_enter Try.func12, Try.ntmps12
  go_wp2_with fail
  refine hso.mono ?_
  rintro e w1 ⟨rfl, sb⟩
  have bl := bnext sb (below_lit w1 (.cells #[.int .i64 0, .int .u8 0, .slice none 0 0] 27))
  go_wp2
  (try simp only [Exit.inBlock, Exit.then])
  refine bodyPost_ret (results_tmp4 rfl _ _) rfl ?_
  exact ⟨rfl, bl⟩
end Go.Proofs.Ytcbgnodmamcmkaa
