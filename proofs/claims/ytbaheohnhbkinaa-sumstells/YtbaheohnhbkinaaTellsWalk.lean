/- SumsTells's Go text returns true for any sum and bytes, and turns nothing that was there. -/
import Derived.Test.YtbaheohnhbkinaaNumbersWalk
namespace Go.Proofs.Ytbaheohnhbkinaa
open Go.RowKit

set_option maxRecDepth 100000 in
set_option maxHeartbeats 1000000 in
theorem tells_any (s : Nat) (a : Option Addr) (len cap : Nat) (l : List UInt8) (w : World) (hs : s < 4294967296) (hl : l.length = len) (hlen : len ≤ 140737488351232) (_hcap : len ≤ cap) (hat : At w a l) :
    Calls Try.prog 4 #[.int .u32 (s : Int), .slice a len cap] w fun e w' => e = .returned (.bool true) ∧ Below w.heap.size w w' := by
  by_cases hbig : 20000 < len
  · go_enter Try.func4, Try.ntmps4
    go_wp2_with (go_at_call 12; refine (awake_any _).mono ?_; rintro e w1 ⟨rfl, hb1⟩)
    go_ret
    exact ⟨rfl, hb1⟩
  · have hsmall : len ≤ 20000 := by omega
    clear hbig
    go_enter Try.func4, Try.ntmps4
    go_wp2_with fail
    refine (lent_any a cap len l _ hl (by omega) hat).mono ?_
    rintro e w1 ⟨g, c, rfl, hc, hk, hb⟩
    have ha := hat.below hb
    go_wp2_with fail
    refine (crc_any len c _ l _ hl (by omega) hk.head).mono ?_
    rintro e w2 ⟨rfl, hb2⟩
    replace ha := ha.below hb2
    replace hk := hk.below hb2
    replace hb := bnext hb hb2
    go_wp2_with fail
    refine (refmore_any 0 len cap a l _ (by omega) hl (by omega) ha).mono ?_
    rintro e w3 ⟨rfl, rfl⟩
    rw [show moreOf 0 l = crcOf l from rfl]
    go_wp2_with fail
    refine (more_any s len c _ l _ hs hl (by omega) hk.head).mono ?_
    rintro e w4 ⟨rfl, hb4⟩
    replace ha := ha.below hb4
    replace hk := hk.below hb4
    replace hb := bnext hb hb4
    go_wp2_with fail
    refine (refmore_any s len cap a l _ hs hl (by omega) ha).mono ?_
    rintro e w5 ⟨rfl, rfl⟩
    go_wp2_with fail
    refine (adler_any len c _ l _ hl (by omega) hk.head).mono ?_
    rintro e w6 ⟨rfl, rfl⟩
    go_wp2_with fail
    refine (refadler_any len cap a l _ hl (by omega) ha).mono ?_
    rintro e w7 ⟨rfl, rfl⟩
    go_wp2_with fail
    refine (kept_any g c cap len a l _ hl (by omega) hc hk ha).mono ?_
    rintro e w8 ⟨rfl, rfl⟩
    go_wp2_with fail
    refine (awake_any _).mono ?_
    rintro e w9 ⟨rfl, hb9⟩
    go_wp2
    go_ret
    exact ⟨rfl, bnext hb hb9⟩
end Go.Proofs.Ytbaheohnhbkinaa
