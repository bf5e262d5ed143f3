/- What an argument is in memory, as the walk asks it. -/
import Derived.Test.YtilncacmkfohdaaGreatArg
import Derived.Test.YtilncacmkfohdaaGreatPd
namespace Go.Proofs.YtilncacmkfohdaaGreat
open Go.RowKit

theorem cfr_in {w : World} {ca pa aa qa : Option Addr} {cn cc pn pc ak az qk qc : Nat} {I : List Int} {M : List (Prt × List ByteArray)} {A : List Acc} {Q : List Qu}
    (hin : CfgIn w ca pa aa qa cn cc pn pc ak az qk qc I M A Q) : CfR w ca pa aa qa cn pn ak az qk I M A Q := by
  have e1 := hin.ib
  have e2 := hin.mb
  have e3 := hin.ab
  have e4 := hin.qb
  exact ⟨hin.il, hin.iat, by omega, hin.ml, hin.mat, by omega, fun p hp => ⟨(hin.min p hp).1, (hin.min p hp).2.1, by have := (hin.min p hp).2.2; omega⟩, hin.set, hin.al, hin.aat, hin.ale, by omega, hin.ql, hin.qat, by omega⟩

end Go.Proofs.YtilncacmkfohdaaGreat
