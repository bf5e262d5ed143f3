/- What the document's Get answers. -/
import Derived.Test.YtkkdiciadkcmmaaGet
namespace Go.Proofs.Ytkkdiciadkcmmaa
open Go.RowKit

set_option maxRecDepth 100000 in
set_option maxHeartbeats 1000000 in
theorem refget_any (a : Option Addr) (len cap : Nat) (tag : UInt8) (its : List It) (w : World) (hl : its.length = len) (hlen : len ≤ 4611686018427387904) (hat : FAt w a its) :
    Calls Try.prog 17 #[.slice a len cap, .int .u8 (tag.toNat : Int)] w fun e w' => GetPost w w' (getOf (fds its) tag) e := by
  go_enter Try.func17, Try.ntmps17
  go_wp2
  go_loopw [6] (fun i wr => ∃ j : Nat, j ≤ len ∧ i = .int .i64 j ∧ Below w.heap.size w wr ∧ (∃ c0 c1 c2 c3 c4 c5, RB wr w.heap.size c0 c1 c2 c3 c4 c5) ∧ ∀ q (hq : q < its.length), q < j → its[q].fd.tag ≠ tag) (fun i _ => len - (intOf i).toNat)
  case atStart => exact ⟨0, Nat.zero_le _, rfl, below_lit w _, ⟨_, _, _, _, _, _, heap_alloc_new w _⟩, fun q _ hq => by omega⟩
  case round =>
    obtain ⟨j, hj, rfl, hb, ⟨p0, p1, p2, p3, p4, p5, hrb⟩, hall⟩ := hrel
    by_cases hlt : j < len
    · have hatw := hat.below hb
      obtain ⟨b, o, rfl, hc⟩ := hatw.form (by intro e; subst e; simp at hl; omega)
      obtain ⟨c0, c1, c2, c3, c4, c5⟩ := hc j (by omega)
      have hit := hat.2 (its[j]'(by omega)) (List.getElem_mem _)
      obtain ⟨it, hit0⟩ : ∃ it, it = its[j]'(by omega) := ⟨_, rfl⟩
      rw [← hit0] at c0 c1 c2 c3 c4 c5 hit
      clear hc
      by_cases htag : it.fd.tag = tag
      · have hget : getOf (fds its) tag = (it.fd, true) := by
          have := get_found (fds its) tag j (by simp [fds]; omega) (by simp [fds]; rw [← hit0]; exact htag) (fun q hq hqj => by simp [fds] at hq ⊢; exact hall q hq hqj)
          rw [this]; simp [fds]; rw [hit0]
        have htb : ((it.fd.tag.toNat : Int) == (tag.toNat : Int)) = true := by rw [htag]; simp
        replace hget := hid hget
        replace htag := hid htag
        replace hit0 := hid hit0
        replace hall := hid hall
        replace hl := hid hl
        obtain ⟨r0, r1, r2, r3, r4, r5⟩ := hrb.six
        have s0 := hrb.free 0
        have s1 := hrb.free 1
        have s2 := hrb.free 2
        have s3 := hrb.free 3
        have s4 := hrb.free 4
        have s5 := hrb.free 5
        have hfin := hrb.all (.int .u8 (it.fd.tag.toNat : Int)) (.int .u8 (it.fd.kind.toNat : Int)) (.int .i64 it.fd.n) (.string it.fd.text) (.slice it.na it.fd.ns.length it.nc) (.slice it.ta it.fd.texts.length it.tc)
        have hbf := six_below hb (Nat.le_refl _) (.int .u8 (it.fd.tag.toNat : Int)) (.int .u8 (it.fd.kind.toNat : Int)) (.int .i64 it.fd.n) (.string it.fd.text) (.slice it.na it.fd.ns.length it.nc) (.slice it.ta it.fd.texts.length it.tc)
        go_wp2
        (try simp only [Exit.inBlock, Exit.then]); refine bodyPost_ret (results_field2 rfl _ _ w.heap.size _ _ _ _ _ _ rfl hfin) rfl ?_
        rw [hget.out]
        exact ⟨it, rfl, rfl, hit.below hbf, hbf⟩
      · have htb : ((it.fd.tag.toNat : Int) == (tag.toNat : Int)) = false := byte_ne htag
        have hall' : ∀ q (hq : q < its.length), q < j + 1 → its[q].fd.tag ≠ tag := fun q hq hqj => by
          rcases Nat.lt_or_ge q j with h | h
          · exact hall q hq h
          · obtain rfl : q = j := by omega
            rw [← hit0]; exact htag
        replace htag := hid htag
        replace hit0 := hid hit0
        replace hall := hid hall
        replace hall' := hid hall'
        replace hl := hid hl
        go_wp2
        go_roundw
        case rel => exact ⟨j + 1, by omega, by go_num, hb, ⟨_, _, _, _, _, _, hrb⟩, hall'.out⟩
        case measure => simp [intOf]; omega
    · obtain rfl : j = len := by omega
      have hget : getOf (fds its) tag = (zeroFd, false) := get_none (fds its) tag (fun q hq => by simp [fds] at hq ⊢; exact hall q hq (by omega))
      replace hget := hid hget
      replace hall := hid hall
      obtain ⟨r0, r1, r2, r3, r4, r5⟩ := hrb.six
      have s0 := hrb.free 0
      have s1 := hrb.free 1
      have s2 := hrb.free 2
      have s3 := hrb.free 3
      have s4 := hrb.free 4
      have s5 := hrb.free 5
      have hfin := hrb.all (.int .u8 0) (.int .u8 0) (.int .i64 0) (.string ByteArray.empty) (.slice none 0 0) (.slice none 0 0)
      have hbf := six_below hb (Nat.le_refl _) (.int .u8 0) (.int .u8 0) (.int .i64 0) (.string ByteArray.empty) (.slice none 0 0) (.slice none 0 0)
      go_wp2
      (try simp only [Exit.inBlock, Exit.then]); refine bodyPost_ret (results_field2 rfl _ _ w.heap.size _ _ _ _ _ _ rfl hfin) rfl ?_
      rw [hget.out]
      exact ⟨⟨zeroFd, none, 0, none, 0⟩, rfl, rfl, ⟨CAt.nil _ _, CAt.nil _ _, ⟨by unfold In64 zeroFd; simp, by unfold zeroFd; simp⟩⟩, hbf⟩
end Go.Proofs.Ytkkdiciadkcmmaa
