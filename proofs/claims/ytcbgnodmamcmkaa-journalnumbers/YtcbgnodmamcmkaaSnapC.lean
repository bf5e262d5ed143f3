/- The parts of Snapshot. -/
import Derived.Test.YtcbgnodmamcmkaaJops
namespace Go.Proofs.Ytcbgnodmamcmkaa
open Go.RowKit

theorem part_sync (base gb g p : Nat) (x : Dx) (d d' : Dsk) (l s f e0 : Int) (b : Bool) (w : World) (hb : w.cell? ⟨gb, 0, none⟩ = some (.pointer (some ⟨g, 0, none⟩))) (hJ : JBlk w g (some ⟨p, 0, none⟩) l s f b) (hs : Sole base w p x d) (hbase : base ≤ w.heap.size) (hn : d.ops.length ≤ 1000000) (he : d.errs = e0) (hd : d.syncD = d') :
    Calls Try.prog 49 #[.pointer (some ⟨gb, 0, none⟩)] w fun e w' => e = .returned (.int .i64 e0) ∧ ∃ x', Sole base w' p x' d' ∧ Grow w p x x' ∧ Kp (Turn p x) w w' := by
  have c0 := hJ.c0
  have hsy := sync_sole base p x d d' e0 w hs hbase hn he hd
  replace he := hid he
  replace hd := hid hd
  go_enter Try.func49, Try.ntmps49
  go_wp2_with fail
  refine hsy.mono ?_
  rintro e w1 ⟨rfl, h⟩
  go_wp2
  go_ret
  exact ⟨rfl, h⟩

theorem part_cut0 (base gb g p : Nat) (x : Dx) (d d' : Dsk) (l s f e0 : Int) (b : Bool) (w : World) (hb : w.cell? ⟨gb, 0, none⟩ = some (.pointer (some ⟨g, 0, none⟩))) (hJ : JBlk w g (some ⟨p, 0, none⟩) l s f b) (hs : Sole base w p x d) (hbase : base ≤ w.heap.size) (hn : d.ops.length ≤ 1000000) (he : d.cutE 0 0 = e0) (hd : d.cutD 0 0 = d') :
    Calls Try.prog 54 #[.pointer (some ⟨gb, 0, none⟩)] w fun e w' => e = .returned (.int .i64 e0) ∧ ∃ x', Sole base w' p x' d' ∧ Grow w p x x' ∧ Kp (Turn p x) w w' := by
  have c0 := hJ.c0
  have hsy := cut_sole base p x d d' 0 0 e0 w hs hbase hn he hd
  replace he := hid he
  replace hd := hid hd
  go_enter Try.func54, Try.ntmps54
  go_wp2_with fail
  refine hsy.mono ?_
  rintro e w1 ⟨rfl, h⟩
  go_wp2
  go_ret
  exact ⟨rfl, h⟩

set_option maxRecDepth 100000 in
set_option maxHeartbeats 4000000 in
theorem part_cut (base gb gt g p : Nat) (x : Dx) (d d' : Dsk) (l s f t e0 : Int) (b : Bool) (w : World) (hb : w.cell? ⟨gb, 0, none⟩ = some (.pointer (some ⟨g, 0, none⟩))) (ht : w.cell? ⟨gt, 0, none⟩ = some (.int .i64 t)) (hJ : JBlk w g (some ⟨p, 0, none⟩) l s f b) (hs : Sole base w p x d) (hbase : base ≤ w.heap.size) (hn : d.ops.length ≤ 1000000) (he : d.cutE t 0 = e0) (hd : d.cutD t 0 = d') :
    Calls Try.prog 51 #[.pointer (some ⟨gb, 0, none⟩), .pointer (some ⟨gt, 0, none⟩)] w fun e w' => e = .returned (.int .i64 e0) ∧ ∃ x', Sole base w' p x' d' ∧ Grow w p x x' ∧ Kp (Turn p x) w w' := by
  have c0 := hJ.c0
  have hcu : ∀ W, Below w.heap.size w W → Calls Try.prog 52 #[.pointer (some ⟨p, 0, none⟩), .int .i64 t, .int .i64 0] W fun e w' => e = .returned (.int .i64 e0) ∧ ∃ x', Sole base w' p x' d' ∧ Grow w p x x' ∧ Kp (Turn p x) w w' := fun W hW => by
    refine (cut_sole base p x d d' t 0 e0 W (hs.below hW) (Nat.le_trans hbase hW.size) hn he hd).mono ?_
    rintro e w' ⟨rfl, x', h1, h2, h3⟩
    exact ⟨rfl, x', h1, ⟨fun k e => (h2.1 k e).elim .inl (fun e => .inr (Nat.le_trans hW.size e)), fun k e => (h2.2 k e).elim .inl (fun e => .inr (Nat.le_trans hW.size e))⟩, (Kp.of_below hW).trans h3⟩
  have hcd := hcu w.drew (drew_below w)
  replace he := hid he
  replace hd := hid hd
  replace hcu := hid hcu
  go_enter Try.func51, Try.ntmps51
  go_wp2_with fail
  go_region_with (go_at_call 52; refine hcd.mono ?_; rintro e w1 ⟨rfl, h⟩)
  all_goals (go_wp2; go_ret; exact ⟨rfl, h⟩)

set_option maxRecDepth 100000 in
set_option maxHeartbeats 4000000 in
theorem part_app (base gb gt gs g p : Nat) (x : Dx) (d d' : Dsk) (l s f t e0 : Int) (b : Bool) (a : Option Addr) (len cap : Nat) (bs : List UInt8) (w : World) (hb : w.cell? ⟨gb, 0, none⟩ = some (.pointer (some ⟨g, 0, none⟩))) (ht : w.cell? ⟨gt, 0, none⟩ = some (.int .i64 t)) (hsl : w.cell? ⟨gs, 0, none⟩ = some (.slice a len cap)) (hJ : JBlk w g (some ⟨p, 0, none⟩) l s f b) (hs : Sole base w p x d) (hbase : base ≤ w.heap.size) (hn : d.ops.length ≤ 1000000) (hl : bs.length = len) (hlen : len ≤ 140737488355328) (hat : At w a bs) (hsep : ∀ ad, a = some ad → ¬ Turn p x ad.block) (he : d.appE t bs = e0) (hd : d.appD t bs = d') :
    Calls Try.prog 53 #[.pointer (some ⟨gb, 0, none⟩), .pointer (some ⟨gt, 0, none⟩), .pointer (some ⟨gs, 0, none⟩)] w fun e w' => e = .returned (.int .i64 e0) ∧ ∃ x', Sole base w' p x' d' ∧ Grow w p x x' ∧ Kp (Turn p x) w w' := by
  have c0 := hJ.c0
  have hcd : Calls Try.prog 18 #[.pointer (some ⟨p, 0, none⟩), .int .i64 t, .slice a len cap] w.drew fun e w' => e = .returned (.int .i64 e0) ∧ ∃ x', Sole base w' p x' d' ∧ Grow w p x x' ∧ Kp (Turn p x) w w' := by
    have hW := drew_below w
    refine (append_sole base p x d d' t e0 a len cap bs w.drew (hs.below hW) (Nat.le_trans hbase hW.size) hn hl hlen (hat.below hW) hsep he hd).mono ?_
    rintro e w' ⟨rfl, x', h1, h2, h3⟩
    exact ⟨rfl, x', h1, ⟨fun k e => (h2.1 k e).elim .inl (fun e => .inr (Nat.le_trans hW.size e)), fun k e => (h2.2 k e).elim .inl (fun e => .inr (Nat.le_trans hW.size e))⟩, (Kp.of_below hW).trans h3⟩
  replace he := hid he
  replace hd := hid hd
  replace hl := hid hl
  go_enter Try.func53, Try.ntmps53
  go_wp2_with fail
  go_region_with (go_at_call 18; refine hcd.mono ?_; rintro e w1 ⟨rfl, h⟩)
  all_goals (go_wp2; go_ret; exact ⟨rfl, h⟩)
end Go.Proofs.Ytcbgnodmamcmkaa
