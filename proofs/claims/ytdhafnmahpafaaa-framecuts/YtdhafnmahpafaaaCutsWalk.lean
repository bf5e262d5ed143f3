/- FrameCuts's Go text returns true for any bytes and any two lists of sizes, and turns nothing that was there. -/
import Derived.Test.YtdhafnmahpafaaaFed
namespace Go.Proofs.Ytdhafnmahpafaaa
open Go.RowKit

set_option maxRecDepth 100000 in
set_option maxHeartbeats 1000000 in
theorem cuts_any (a s1 s2 : Option Addr) (len cap n1 c1 n2 c2 : Nat) (l : List UInt8) (w : World) (hl : l.length = len) (hcap : len ≤ cap) (hlen : len ≤ 140737488351232) (hat : At w a l) (hn1 : n1 ≤ 4611686018427387904) (hn2 : n2 ≤ 4611686018427387904) (i1 : IAt w s1 n1) (i2 : IAt w s2 n2) :
    Calls Try.prog 6 #[.slice a len cap, .slice s1 n1 c1, .slice s2 n2 c2] w fun e w' => e = .returned (.bool true) ∧ Below w.heap.size w w' := by
  by_cases hbig : 200000 < len
  · go_enter Try.func6, Try.ntmps6
    go_wp2_with (go_at_call 13; refine (awake_any _).mono ?_; rintro e w1 ⟨rfl, hb1⟩)
    go_ret
    exact ⟨rfl, hb1⟩
  · have hnum := take_len l
    go_enter Try.func6, Try.ntmps6
    go_wp2_with fail
    refine (fed_any a s1 len cap n1 c1 l _ hl (by omega) hcap hat hn1 i1).mono ?_
    rintro e w1 ⟨a1, k1, t1, m1, rfl, f1, hb1⟩
    have f1' := f1.fat
    clear f1
    go_wp2_with fail
    refine (fed_any a s2 len cap n2 c2 l _ hl (by omega) hcap (hat.below hb1) hn2 (i2.below hb1)).mono ?_
    rintro e w2 ⟨a2, k2, t2, m2, rfl, f2, hb2⟩
    have f2' := f2.fat
    clear f2
    replace f1' := f1'.below hb2
    replace hb1 := bnext hb1 hb2
    have hbd : t1.length ≤ 4611686018427387904 := by
      have hlm : t1.length = (takeOf l).1.length := by rw [← m1, List.length_map]
      omega
    have hmm : Hid (t1.map It.fr = t2.map It.fr) := by rw [m1, m2]; exact rfl
    clear hnum
    generalize (takeOf l).2.isNone = br at *
    generalize ((takeOf l).2.getD []).length = lf at *
    replace m1 := hid m1
    replace m2 := hid m2
    go_wp2_with fail
    refine (samef_any a1 a2 t1.length t2.length k1 k2 t1 t2 _ rfl rfl hbd f1' f2' hmm.out).mono ?_
    rintro e w3 ⟨rfl, hb3⟩
    replace hb1 := bnext hb1 hb3
    go_wp2_with (go_at_call 13; refine (awake_any _).mono ?_; rintro e w4 ⟨rfl, hb4⟩)
    go_ret
    exact ⟨rfl, bnext hb1 hb4⟩
end Go.Proofs.Ytdhafnmahpafaaa
