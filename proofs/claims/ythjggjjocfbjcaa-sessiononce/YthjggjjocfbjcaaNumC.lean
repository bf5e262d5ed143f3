/- The code of SessionNumbers from a region on; Ask and Take with their answers told. -/
import Derived.Test.YthjggjjocfbjcaaNumP
import Derived.Test.YthjggjjocfbjcaaAwake
import Derived.Test.YthjggjjocfbjcaaTake
namespace Go.Proofs.Ythjggjjocfbjcaa
open Go.RowKit

def headIs (n : Nat) : Code → Bool
  | .region id _ _ => id == n
  | .seq a _ => headIs n a
  | .block _ c => headIs n c
  | .loop c => headIs n c
  | _ => false

/-- What is left from the region n on. -/
def restOf (n : Nat) : Code → Option Code
  | .seq a b => if headIs n a then some (.seq a b) else restOf n b
  | c => if headIs n c then some c else none


theorem ask_of {id next acked id2 next2 acked2 k e : Int} {L L2 : List PK} {body : List UInt8} {n2 : Nat} (hR : askP (id, next, acked, L) body = ((id2, next2, acked2, L2), k, e)) (hn2 : L2.length = n2)
    (a : Option Addr) (n c lo : Nat) (ks : List KV) (ba : Option Addr) (bl bc : Nat) (w : World) (hf : ks.map KV.flat = L) (hl : ks.length = n) (h : KAt w lo a ks) (hs : n ≤ 1000) (hin : 0 ≤ next ∧ next ≤ 9223372036854775807) (hbl : body.length = bl) (hbs : bl ≤ 100000) (hat : At w ba body) :
    Calls Try.prog 12 #[.agg #[.int .i64 id, .int .i64 next, .int .i64 acked, .slice a n c], .slice ba bl bc] w fun en w2 => ∃ a2 c2 ks2, en = .returned (.tuple #[.agg #[.int .i64 id2, .int .i64 next2, .int .i64 acked2, .slice a2 n2 c2], .int .i64 k, .int .i64 e]) ∧ ks2.map KV.flat = L2 ∧ ks2.length = n2 ∧ KAt w2 w.heap.size a2 ks2 ∧ Below w.heap.size w w2 := by
  have hc := ask_any id next acked a n c lo ks ba bl bc body w hl h (by unfold SMALL; omega) (by omega) hbl (by omega) hat
  rw [hf, hR] at hc
  refine hc.mono ?_
  rintro en w2 ⟨a2, c2, ks2, rfl, hk2, hA2, hb2⟩
  refine ⟨a2, c2, ks2, ?_, hk2, ?_, hA2, hb2⟩
  · show Ending.returned (.tuple #[askV (id2, next2, acked2, L2) a2 L2.length c2, .int .i64 k, .int .i64 e]) = _
    rw [hn2]; rfl
  · have := congrArg List.length hk2
    rw [List.length_map] at this
    rw [this]; exact hn2

theorem take_of {id next acked id2 next2 acked2 r e : Int} {was : Bool} {L L2 : List PK} {n2 : Nat} (hR : takeP (id, next, acked, L) r = ((id2, next2, acked2, L2), was, e)) (hn2 : L2.length = n2)
    (a : Option Addr) (n c lo : Nat) (ks : List KV) (w : World) (hf : ks.map KV.flat = L) (hl : ks.length = n) (h : KAt w lo a ks) (hs : n ≤ 1000) (hin : 0 ≤ next ∧ next ≤ 9223372036854775807) :
    Calls Try.prog 13 #[.agg #[.int .i64 id, .int .i64 next, .int .i64 acked, .slice a n c], .int .i64 r] w fun en w2 => ∃ a2 c2 ks2, en = .returned (.tuple #[.agg #[.int .i64 id2, .int .i64 next2, .int .i64 acked2, .slice a2 n2 c2], .bool was, .int .i64 e]) ∧ ks2.map KV.flat = L2 ∧ ks2.length = n2 ∧ KAt w2 w.heap.size a2 ks2 ∧ Below w.heap.size w w2 := by
  have hc := take_any id next acked r a n c lo ks w hl h (by unfold SMALL; omega) (by omega)
  rw [hf, hR] at hc
  refine hc.mono ?_
  rintro en w2 ⟨a2, c2, ks2, rfl, hk2, hA2, hb2⟩
  refine ⟨a2, c2, ks2, ?_, hk2, ?_, hA2, hb2⟩
  · show Ending.returned (.tuple #[askV (id2, next2, acked2, L2) a2 L2.length c2, .bool was, .int .i64 e]) = _
    rw [hn2]; rfl
  · have := congrArg List.length hk2
    rw [List.length_map] at this
    rw [this]; exact hn2

end Go.Proofs.Ythjggjjocfbjcaa
