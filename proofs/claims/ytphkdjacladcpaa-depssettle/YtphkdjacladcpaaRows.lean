/-
  No cell of these rows narrows 'for every input' (looked for: loops, veiled, ifaces, maps, wideKeys, modest, calm, conditions, laid).
  DERIVED. THE GIVEN ROWS OF THIS SEAT. 3 by the template 'for every input the law returns true; each argument reads behind the call as it read before'; 0 by the template 'total and deterministic' (their statements: YtphkdjacladcpaaTotals.lean).
  GIVEN WITH THE SEED: the statements are not yours to turn. If you find one false, say at which input.
  Laid BY PROGRAM, IN A SANDBOX (cutbox-rows.mjs): the forced cells as the released guide's own fill.sh prints them over the translation 7a0bb33bba1aa37c… (all of the seat's roots in one cut). By AI agents, Wed Nov 11 2026. No macro, syntax, notation, axiom, sorry.
-/
import Derived.Test.YtphkdjacladcpaaChecked
import GoSem.Claim
import GoSem.ClaimJoined
import GoSem.ClaimMapViews
import Derived.JoinedTies
import Derived.KernelRfl
namespace Go.Proofs.Ytphkdjacladcpaa
/- THE CELL 'sum', in the pinned program and in every row, IS THE sha256 OF THE DUMP (.gsa) THAT YtphkdjacladcpaaProg.lean LOADS. Nothing in Lean hashes anything: it is a label: what it is worth is what the hold of that sum in a sandbox is worth. -/
noncomputable def Try.pinned : Pinned := { name := "ytphkdjacladcpaa", sum := "7a0bb33bba1aa37c62e4d71c2537f5785694c8f49b4362eb19d792f755cb3004", checked := Try.checked }
namespace Rows
def none {H : Type} : Left H := { results := [], args := [] }

/-- 'musterlaw20.DepsTells': WHATEVER THE INPUT: true; the input reads as it did. -/
def depsTellsSpec : ChangeSpec := { name := "depsTells", fn := fun _ => fun
  | [d1, d2, d3] => { results := [.lit (.bool true)], args := [d1, d2, d3] }
  | _ => none }
def depsTellsRow : OpenClaim := { program := "ytphkdjacladcpaa", sum := "7a0bb33bba1aa37c62e4d71c2537f5785694c8f49b4362eb19d792f755cb3004", func := "muster/musterlaw20.DepsTells", spec := "depsTells", unfollowed := true, recurses := true, apart := false }
def DepsTellsSaid : Prop := depsTellsRow.holds Try.pinned (OpenSpec.ofChange depsTellsSpec)

/-- ITS FALSE NEIGHBOUR: 'it returns false'. Refute it at one input. -/
def depsTellsWrong : ChangeSpec := { name := "depsTells", fn := fun _ => fun
  | [d1, d2, d3] => { results := [.lit (.bool false)], args := [d1, d2, d3] }
  | _ => none }
def DepsTellsWrongFalsely : Prop := depsTellsRow.holds Try.pinned (OpenSpec.ofChange depsTellsWrong)

/-- 'musterlaw20.DepsSettle': WHATEVER THE INPUT: true; the input reads as it did. -/
def depsSettleSpec : ChangeSpec := { name := "depsSettle", fn := fun _ => fun
  | [d1, d2, d3] => { results := [.lit (.bool true)], args := [d1, d2, d3] }
  | _ => none }
def depsSettleRow : OpenClaim := { program := "ytphkdjacladcpaa", sum := "7a0bb33bba1aa37c62e4d71c2537f5785694c8f49b4362eb19d792f755cb3004", func := "muster/musterlaw20.DepsSettle", spec := "depsSettle", unfollowed := true, recurses := true, apart := false }
def DepsSettleSaid : Prop := depsSettleRow.holds Try.pinned (OpenSpec.ofChange depsSettleSpec)

/-- ITS FALSE NEIGHBOUR: 'it returns false'. Refute it at one input. -/
def depsSettleWrong : ChangeSpec := { name := "depsSettle", fn := fun _ => fun
  | [d1, d2, d3] => { results := [.lit (.bool false)], args := [d1, d2, d3] }
  | _ => none }
def DepsSettleWrongFalsely : Prop := depsSettleRow.holds Try.pinned (OpenSpec.ofChange depsSettleWrong)

/-- 'musterlaw20.DepsParts': WHATEVER THE INPUT: true; the input reads as it did. -/
def depsPartsSpec : ChangeSpec := { name := "depsParts", fn := fun _ => fun
  | [d1, d2, d3] => { results := [.lit (.bool true)], args := [d1, d2, d3] }
  | _ => none }
def depsPartsRow : OpenClaim := { program := "ytphkdjacladcpaa", sum := "7a0bb33bba1aa37c62e4d71c2537f5785694c8f49b4362eb19d792f755cb3004", func := "muster/musterlaw20.DepsParts", spec := "depsParts", unfollowed := true, recurses := true, apart := false }
def DepsPartsSaid : Prop := depsPartsRow.holds Try.pinned (OpenSpec.ofChange depsPartsSpec)

/-- ITS FALSE NEIGHBOUR: 'it returns false'. Refute it at one input. -/
def depsPartsWrong : ChangeSpec := { name := "depsParts", fn := fun _ => fun
  | [d1, d2, d3] => { results := [.lit (.bool false)], args := [d1, d2, d3] }
  | _ => none }
def DepsPartsWrongFalsely : Prop := depsPartsRow.holds Try.pinned (OpenSpec.ofChange depsPartsWrong)

/- THE SECOND FORM. 'bulk': how many values and letters a reading holds, each counted each time it is reached (what is shared counts as often as it is met; a slice's spare places count too). A statement '..UptoSaid' is the law's where the arguments, and the package variables that the reading takes, are together of bulk at most 1048576: NARROWER than '..Said'. Prove '..Said' where nothing that the law and all that it calls make is longer than what came in: it says more and counts as full. Else prove '..UptoSaid'. A law counts once. -/
mutual
def uptoBulk {H : Type} : DataW H → Nat
  | .lit (.string bytes) => bytes.length + 1
  | .lit _ => 1
  | .nil => 1
  | .ptr d => uptoBulk d + 1
  | .slice elems spare => uptoBulkAll elems + uptoBulkAll spare + 1
  | .agg parts => uptoBulkAll parts + 1
  | .iface _ d => uptoBulk d + 1
  | .map entries => uptoBulkEntries entries + 1
  | .held _ => 1
def uptoBulkAll {H : Type} : List (DataW H) → Nat
  | [] => 0
  | d :: r => uptoBulk d + uptoBulkAll r
def uptoBulkEntries {H : Type} : List (Lit × DataW H) → Nat
  | [] => 0
  | x :: r => uptoBulkEntry x + uptoBulkEntries r
def uptoBulkEntry {H : Type} : Lit × DataW H → Nat
  | (.string bytes, d) => bytes.length + uptoBulk d + 1
  | (_, d) => uptoBulk d + 1
 end
def uptoSmall : (H : Type) → List (DataW H) → Bool := fun _ ds => decide (uptoBulkAll ds ≤ 1048576)
def OpenSpec.upto (s : _root_.Go.ChangeSpec) : _root_.Go.OpenSpec := { _root_.Go.OpenSpec.ofChange s with cond := some uptoSmall }

/-- 'musterlaw20.DepsTells', WHERE WHAT IT READS IS OF BULK AT MOST 1048576: true; the input reads as it did. -/
def depsTellsUptoRow : OpenClaim := { program := "ytphkdjacladcpaa", sum := "7a0bb33bba1aa37c62e4d71c2537f5785694c8f49b4362eb19d792f755cb3004", func := "muster/musterlaw20.DepsTells", spec := "depsTells", unfollowed := true, recurses := true, apart := false, narrowed := true }
def DepsTellsUptoSaid : Prop := depsTellsUptoRow.holds Try.pinned (OpenSpec.upto depsTellsSpec)

/-- 'musterlaw20.DepsSettle', WHERE WHAT IT READS IS OF BULK AT MOST 1048576: true; the input reads as it did. -/
def depsSettleUptoRow : OpenClaim := { program := "ytphkdjacladcpaa", sum := "7a0bb33bba1aa37c62e4d71c2537f5785694c8f49b4362eb19d792f755cb3004", func := "muster/musterlaw20.DepsSettle", spec := "depsSettle", unfollowed := true, recurses := true, apart := false, narrowed := true }
def DepsSettleUptoSaid : Prop := depsSettleUptoRow.holds Try.pinned (OpenSpec.upto depsSettleSpec)

/-- 'musterlaw20.DepsParts', WHERE WHAT IT READS IS OF BULK AT MOST 1048576: true; the input reads as it did. -/
def depsPartsUptoRow : OpenClaim := { program := "ytphkdjacladcpaa", sum := "7a0bb33bba1aa37c62e4d71c2537f5785694c8f49b4362eb19d792f755cb3004", func := "muster/musterlaw20.DepsParts", spec := "depsParts", unfollowed := true, recurses := true, apart := false, narrowed := true }
def DepsPartsUptoSaid : Prop := depsPartsUptoRow.holds Try.pinned (OpenSpec.upto depsPartsSpec)

end Rows
end Go.Proofs.Ytphkdjacladcpaa
