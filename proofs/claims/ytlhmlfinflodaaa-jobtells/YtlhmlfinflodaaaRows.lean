/-
  No cell of these rows narrows 'for every input' (looked for: loops, veiled, ifaces, maps, wideKeys, modest, calm, conditions, laid).
  DERIVED. THE GIVEN ROWS OF THIS SEAT. 3 by the template 'for every input the law returns true; each argument reads behind the call as it read before'; 0 by the template 'total and deterministic' (their statements: YtlhmlfinflodaaaTotals.lean).
  GIVEN WITH THE SEED: the statements are not yours to turn. If you find one false, say at which input.
  Laid BY PROGRAM, IN A SANDBOX (cutbox-rows.mjs): the forced cells as the released guide's own fill.sh prints them over the translation db88d21f62290b27… (all of the seat's roots in one cut). By AI agents, Wed Nov 11 2026. No macro, syntax, notation, axiom, sorry.
-/
import Derived.Test.YtlhmlfinflodaaaChecked
import GoSem.Claim
import GoSem.ClaimJoined
import GoSem.ClaimMapViews
import Derived.JoinedTies
import Derived.KernelRfl
namespace Go.Proofs.Ytlhmlfinflodaaa
/- THE CELL 'sum', in the pinned program and in every row, IS THE sha256 OF THE DUMP (.gsa) THAT YtlhmlfinflodaaaProg.lean LOADS. Nothing in Lean hashes anything: it is a label: what it is worth is what the hold of that sum in a sandbox is worth. -/
noncomputable def Try.pinned : Pinned := { name := "ytlhmlfinflodaaa", sum := "db88d21f62290b27c81e85340c436ca63245e26285046486fb3ca55b284a1196", checked := Try.checked }
namespace Rows
def none {H : Type} : Left H := { results := [], args := [] }

/-- 'musterlaw18.JobTells': WHATEVER THE INPUT: true; the input reads as it did. -/
def jobTellsSpec : ChangeSpec := { name := "jobTells", fn := fun _ => fun
  | [d1, d2, d3] => { results := [.lit (.bool true)], args := [d1, d2, d3] }
  | _ => none }
def jobTellsRow : OpenClaim := { program := "ytlhmlfinflodaaa", sum := "db88d21f62290b27c81e85340c436ca63245e26285046486fb3ca55b284a1196", func := "muster/musterlaw18.JobTells", spec := "jobTells", unfollowed := true, recurses := true, apart := false }
def JobTellsSaid : Prop := jobTellsRow.holds Try.pinned (OpenSpec.ofChange jobTellsSpec)

/-- ITS FALSE NEIGHBOUR: 'it returns false'. Refute it at one input. -/
def jobTellsWrong : ChangeSpec := { name := "jobTells", fn := fun _ => fun
  | [d1, d2, d3] => { results := [.lit (.bool false)], args := [d1, d2, d3] }
  | _ => none }
def JobTellsWrongFalsely : Prop := jobTellsRow.holds Try.pinned (OpenSpec.ofChange jobTellsWrong)

/-- 'musterlaw18.JobOnce': WHATEVER THE INPUT: true; the input reads as it did. -/
def jobOnceSpec : ChangeSpec := { name := "jobOnce", fn := fun _ => fun
  | [d1, d2, d3] => { results := [.lit (.bool true)], args := [d1, d2, d3] }
  | _ => none }
def jobOnceRow : OpenClaim := { program := "ytlhmlfinflodaaa", sum := "db88d21f62290b27c81e85340c436ca63245e26285046486fb3ca55b284a1196", func := "muster/musterlaw18.JobOnce", spec := "jobOnce", apart := false }
def JobOnceSaid : Prop := jobOnceRow.holds Try.pinned (OpenSpec.ofChange jobOnceSpec)

/-- ITS FALSE NEIGHBOUR: 'it returns false'. Refute it at one input. -/
def jobOnceWrong : ChangeSpec := { name := "jobOnce", fn := fun _ => fun
  | [d1, d2, d3] => { results := [.lit (.bool false)], args := [d1, d2, d3] }
  | _ => none }
def JobOnceWrongFalsely : Prop := jobOnceRow.holds Try.pinned (OpenSpec.ofChange jobOnceWrong)

/-- 'musterlaw18.JobEnds': WHATEVER THE INPUT: true; the input reads as it did. -/
def jobEndsSpec : ChangeSpec := { name := "jobEnds", fn := fun _ => fun
  | [d1, d2, d3] => { results := [.lit (.bool true)], args := [d1, d2, d3] }
  | _ => none }
def jobEndsRow : OpenClaim := { program := "ytlhmlfinflodaaa", sum := "db88d21f62290b27c81e85340c436ca63245e26285046486fb3ca55b284a1196", func := "muster/musterlaw18.JobEnds", spec := "jobEnds", apart := false }
def JobEndsSaid : Prop := jobEndsRow.holds Try.pinned (OpenSpec.ofChange jobEndsSpec)

/-- ITS FALSE NEIGHBOUR: 'it returns false'. Refute it at one input. -/
def jobEndsWrong : ChangeSpec := { name := "jobEnds", fn := fun _ => fun
  | [d1, d2, d3] => { results := [.lit (.bool false)], args := [d1, d2, d3] }
  | _ => none }
def JobEndsWrongFalsely : Prop := jobEndsRow.holds Try.pinned (OpenSpec.ofChange jobEndsWrong)

/- THE SECOND FORM. 'bulk': how many values and letters a reading holds, each counted each time it is reached (what is shared counts as often as it is met; a slice's spare places count too). A statement '..UptoSaid' is the law's where the arguments, and the package variables that the reading takes, are together of bulk at most 1048576: NARROWER than '..Said'. Prove '..Said' where nothing that the law and all that it calls make is longer than what came in: it says more and counts as full. Else prove '..UptoSaid'. A law counts once. -/
mutual
def uptoBulk {H : Type} : DataW H → Nat
  | .lit (.string bytes) => bytes.length + 1
  | .lit _ => 1
  | .nil => 1
  | .ptr d => uptoBulk d + 1
  | .slice elems spare => uptoBulkAll elems + uptoBulkAll spare + 1
  | .agg parts => uptoBulkAll parts + 1
  | .iface _ d => uptoBulk d + 1
  | .map entries => uptoBulkEntries entries + 1
  | .held _ => 1
def uptoBulkAll {H : Type} : List (DataW H) → Nat
  | [] => 0
  | d :: r => uptoBulk d + uptoBulkAll r
def uptoBulkEntries {H : Type} : List (Lit × DataW H) → Nat
  | [] => 0
  | x :: r => uptoBulkEntry x + uptoBulkEntries r
def uptoBulkEntry {H : Type} : Lit × DataW H → Nat
  | (.string bytes, d) => bytes.length + uptoBulk d + 1
  | (_, d) => uptoBulk d + 1
 end
def uptoSmall : (H : Type) → List (DataW H) → Bool := fun _ ds => decide (uptoBulkAll ds ≤ 1048576)
def OpenSpec.upto (s : _root_.Go.ChangeSpec) : _root_.Go.OpenSpec := { _root_.Go.OpenSpec.ofChange s with cond := some uptoSmall }

/-- 'musterlaw18.JobTells', WHERE WHAT IT READS IS OF BULK AT MOST 1048576: true; the input reads as it did. -/
def jobTellsUptoRow : OpenClaim := { program := "ytlhmlfinflodaaa", sum := "db88d21f62290b27c81e85340c436ca63245e26285046486fb3ca55b284a1196", func := "muster/musterlaw18.JobTells", spec := "jobTells", unfollowed := true, recurses := true, apart := false, narrowed := true }
def JobTellsUptoSaid : Prop := jobTellsUptoRow.holds Try.pinned (OpenSpec.upto jobTellsSpec)

/-- 'musterlaw18.JobOnce', WHERE WHAT IT READS IS OF BULK AT MOST 1048576: true; the input reads as it did. -/
def jobOnceUptoRow : OpenClaim := { program := "ytlhmlfinflodaaa", sum := "db88d21f62290b27c81e85340c436ca63245e26285046486fb3ca55b284a1196", func := "muster/musterlaw18.JobOnce", spec := "jobOnce", apart := false, narrowed := true }
def JobOnceUptoSaid : Prop := jobOnceUptoRow.holds Try.pinned (OpenSpec.upto jobOnceSpec)

/-- 'musterlaw18.JobEnds', WHERE WHAT IT READS IS OF BULK AT MOST 1048576: true; the input reads as it did. -/
def jobEndsUptoRow : OpenClaim := { program := "ytlhmlfinflodaaa", sum := "db88d21f62290b27c81e85340c436ca63245e26285046486fb3ca55b284a1196", func := "muster/musterlaw18.JobEnds", spec := "jobEnds", apart := false, narrowed := true }
def JobEndsUptoSaid : Prop := jobEndsUptoRow.holds Try.pinned (OpenSpec.upto jobEndsSpec)

end Rows
end Go.Proofs.Ytlhmlfinflodaaa
