/-
  No cell of these rows narrows 'for every input' (looked for: loops, veiled, ifaces, maps, wideKeys, modest, calm, conditions, laid).
  DERIVED. THE GIVEN ROWS OF THIS SEAT. 3 by the template 'for every input the law returns true; each argument reads behind the call as it read before'; 0 by the template 'total and deterministic' (their statements: YtledgaiekbpndaaTotals.lean).
  GIVEN WITH THE SEED: the statements are not yours to turn. If you find one false, say at which input.
  Laid BY PROGRAM, IN A SANDBOX (cutbox-rows.mjs): the forced cells as the released guide's own fill.sh prints them over the translation 4f39e059cfdd2196… (all of the seat's roots in one cut). By AI agents, Wed Nov 11 2026. No macro, syntax, notation, axiom, sorry.
-/
import Derived.Test.YtledgaiekbpndaaChecked
import GoSem.Claim
import GoSem.ClaimJoined
import GoSem.ClaimMapViews
import Derived.JoinedTies
import Derived.KernelRfl
namespace Go.Proofs.Ytledgaiekbpndaa
/- THE CELL 'sum', in the pinned program and in every row, IS THE sha256 OF THE DUMP (.gsa) THAT YtledgaiekbpndaaProg.lean LOADS. Nothing in Lean hashes anything: it is a label: what it is worth is what the hold of that sum in a sandbox is worth. -/
noncomputable def Try.pinned : Pinned := { name := "ytledgaiekbpndaa", sum := "4f39e059cfdd2196fa65f635c3732d4aba6bf0e71f11e84a488900b118a8bbce", checked := Try.checked }
namespace Rows
def none {H : Type} : Left H := { results := [], args := [] }

/-- 'musterlaw13.NodesTells': WHATEVER THE INPUT: true; the input reads as it did. -/
def nodesTellsSpec : ChangeSpec := { name := "nodesTells", fn := fun _ => fun
  | [d1, d2, d3] => { results := [.lit (.bool true)], args := [d1, d2, d3] }
  | _ => none }
def nodesTellsRow : OpenClaim := { program := "ytledgaiekbpndaa", sum := "4f39e059cfdd2196fa65f635c3732d4aba6bf0e71f11e84a488900b118a8bbce", func := "muster/musterlaw13.NodesTells", spec := "nodesTells", unfollowed := true, recurses := true, apart := false }
def NodesTellsSaid : Prop := nodesTellsRow.holds Try.pinned (OpenSpec.ofChange nodesTellsSpec)

/-- ITS FALSE NEIGHBOUR: 'it returns false'. Refute it at one input. -/
def nodesTellsWrong : ChangeSpec := { name := "nodesTells", fn := fun _ => fun
  | [d1, d2, d3] => { results := [.lit (.bool false)], args := [d1, d2, d3] }
  | _ => none }
def NodesTellsWrongFalsely : Prop := nodesTellsRow.holds Try.pinned (OpenSpec.ofChange nodesTellsWrong)

/-- 'musterlaw13.NodesTurns': WHATEVER THE INPUT: true; the input reads as it did. -/
def nodesTurnsSpec : ChangeSpec := { name := "nodesTurns", fn := fun _ => fun
  | [d1, d2] => { results := [.lit (.bool true)], args := [d1, d2] }
  | _ => none }
def nodesTurnsRow : OpenClaim := { program := "ytledgaiekbpndaa", sum := "4f39e059cfdd2196fa65f635c3732d4aba6bf0e71f11e84a488900b118a8bbce", func := "muster/musterlaw13.NodesTurns", spec := "nodesTurns", unfollowed := true, recurses := true, apart := false }
def NodesTurnsSaid : Prop := nodesTurnsRow.holds Try.pinned (OpenSpec.ofChange nodesTurnsSpec)

/-- ITS FALSE NEIGHBOUR: 'it returns false'. Refute it at one input. -/
def nodesTurnsWrong : ChangeSpec := { name := "nodesTurns", fn := fun _ => fun
  | [d1, d2] => { results := [.lit (.bool false)], args := [d1, d2] }
  | _ => none }
def NodesTurnsWrongFalsely : Prop := nodesTurnsRow.holds Try.pinned (OpenSpec.ofChange nodesTurnsWrong)

/-- 'musterlaw13.NodesSets': WHATEVER THE INPUT: true; the input reads as it did. -/
def nodesSetsSpec : ChangeSpec := { name := "nodesSets", fn := fun _ => fun
  | [d1, d2, d3] => { results := [.lit (.bool true)], args := [d1, d2, d3] }
  | _ => none }
def nodesSetsRow : OpenClaim := { program := "ytledgaiekbpndaa", sum := "4f39e059cfdd2196fa65f635c3732d4aba6bf0e71f11e84a488900b118a8bbce", func := "muster/musterlaw13.NodesSets", spec := "nodesSets", unfollowed := true, recurses := true, apart := false }
def NodesSetsSaid : Prop := nodesSetsRow.holds Try.pinned (OpenSpec.ofChange nodesSetsSpec)

/-- ITS FALSE NEIGHBOUR: 'it returns false'. Refute it at one input. -/
def nodesSetsWrong : ChangeSpec := { name := "nodesSets", fn := fun _ => fun
  | [d1, d2, d3] => { results := [.lit (.bool false)], args := [d1, d2, d3] }
  | _ => none }
def NodesSetsWrongFalsely : Prop := nodesSetsRow.holds Try.pinned (OpenSpec.ofChange nodesSetsWrong)

/- THE SECOND FORM. 'bulk': how many values and letters a reading holds, each counted each time it is reached (what is shared counts as often as it is met; a slice's spare places count too). A statement '..UptoSaid' is the law's where the arguments, and the package variables that the reading takes, are together of bulk at most 1048576: NARROWER than '..Said'. Prove '..Said' where nothing that the law and all that it calls make is longer than what came in: it says more and counts as full. Else prove '..UptoSaid'. A law counts once. -/
mutual
def uptoBulk {H : Type} : DataW H → Nat
  | .lit (.string bytes) => bytes.length + 1
  | .lit _ => 1
  | .nil => 1
  | .ptr d => uptoBulk d + 1
  | .slice elems spare => uptoBulkAll elems + uptoBulkAll spare + 1
  | .agg parts => uptoBulkAll parts + 1
  | .iface _ d => uptoBulk d + 1
  | .map entries => uptoBulkEntries entries + 1
  | .held _ => 1
def uptoBulkAll {H : Type} : List (DataW H) → Nat
  | [] => 0
  | d :: r => uptoBulk d + uptoBulkAll r
def uptoBulkEntries {H : Type} : List (Lit × DataW H) → Nat
  | [] => 0
  | x :: r => uptoBulkEntry x + uptoBulkEntries r
def uptoBulkEntry {H : Type} : Lit × DataW H → Nat
  | (.string bytes, d) => bytes.length + uptoBulk d + 1
  | (_, d) => uptoBulk d + 1
 end
def uptoSmall : (H : Type) → List (DataW H) → Bool := fun _ ds => decide (uptoBulkAll ds ≤ 1048576)
def OpenSpec.upto (s : _root_.Go.ChangeSpec) : _root_.Go.OpenSpec := { _root_.Go.OpenSpec.ofChange s with cond := some uptoSmall }

/-- 'musterlaw13.NodesTells', WHERE WHAT IT READS IS OF BULK AT MOST 1048576: true; the input reads as it did. -/
def nodesTellsUptoRow : OpenClaim := { program := "ytledgaiekbpndaa", sum := "4f39e059cfdd2196fa65f635c3732d4aba6bf0e71f11e84a488900b118a8bbce", func := "muster/musterlaw13.NodesTells", spec := "nodesTells", unfollowed := true, recurses := true, apart := false, narrowed := true }
def NodesTellsUptoSaid : Prop := nodesTellsUptoRow.holds Try.pinned (OpenSpec.upto nodesTellsSpec)

/-- 'musterlaw13.NodesTurns', WHERE WHAT IT READS IS OF BULK AT MOST 1048576: true; the input reads as it did. -/
def nodesTurnsUptoRow : OpenClaim := { program := "ytledgaiekbpndaa", sum := "4f39e059cfdd2196fa65f635c3732d4aba6bf0e71f11e84a488900b118a8bbce", func := "muster/musterlaw13.NodesTurns", spec := "nodesTurns", unfollowed := true, recurses := true, apart := false, narrowed := true }
def NodesTurnsUptoSaid : Prop := nodesTurnsUptoRow.holds Try.pinned (OpenSpec.upto nodesTurnsSpec)

/-- 'musterlaw13.NodesSets', WHERE WHAT IT READS IS OF BULK AT MOST 1048576: true; the input reads as it did. -/
def nodesSetsUptoRow : OpenClaim := { program := "ytledgaiekbpndaa", sum := "4f39e059cfdd2196fa65f635c3732d4aba6bf0e71f11e84a488900b118a8bbce", func := "muster/musterlaw13.NodesSets", spec := "nodesSets", unfollowed := true, recurses := true, apart := false, narrowed := true }
def NodesSetsUptoSaid : Prop := nodesSetsUptoRow.holds Try.pinned (OpenSpec.upto nodesSetsSpec)

end Rows
end Go.Proofs.Ytledgaiekbpndaa
