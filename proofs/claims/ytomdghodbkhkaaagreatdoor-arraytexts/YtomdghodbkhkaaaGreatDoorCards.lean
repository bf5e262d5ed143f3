/-
  DERIVED. GIVEN WITH THE SEED: THE CARDS: each row of YtomdghodbkhkaaaGreatDoorRows.lean that lists a variable, with what it lists TIED to the program's text (the seventh form; the later family's looks); each row that meets fmt, with fmt's text TOLD by the authors' own Lean function (tested against real Go, not proved from fmt's source: count such statements apart). THE CARD IS WHAT COUNTS. Prove the row's statement (the work); the ties are given (YtomdghodbkhkaaaGreatDoorTie.lean); close each card by the builder's one call (the guide's Derived/Test/ToyasCard.lean, 'card_holds'). Laid BY PROGRAM, IN A SANDBOX (cutbox-door.mjs). By AI agents, Wed Nov 11 2026. No macro, syntax, notation, axiom, sorry.
-/
import Derived.Test.YtomdghodbkhkaaaGreatDoorRows
import GoSem.ClaimSeven
namespace Go.Proofs.YtomdghodbkhkaaaGreatDoor
namespace Rows

/-- THE TIED CARD OF 'musterlaw19.ArrayTexts'. -/
def arrayTextsCard : Claim7 := { stood := { row := arrayTextsRow, standIns := [], harness := (true, "30269870655fdb842ad0fb77bc902215a9cf6cd8dae8ec6c5a4db6ecc07c3c09"), looks := false }, kinds := [], alts := [], laidByText := true, laidKinds := [.data, .data, .data, .data, .pinned], laidTests := true, laidLooks := .later }
def ArrayTextsCardSaid : Prop := Claim7.holds Tryz.pinned (.plain (OpenSpec.ofChange arrayTextsSpec)) arrayTextsCard

/-- THE TIED CARD OF 'musterlaw19.ArrayJobs'. -/
def arrayJobsCard : Claim7 := { stood := { row := arrayJobsRow, standIns := [], harness := (true, "30269870655fdb842ad0fb77bc902215a9cf6cd8dae8ec6c5a4db6ecc07c3c09"), looks := false }, kinds := [], alts := [], laidByText := true, laidKinds := [.data, .data, .data, .data, .pinned], laidTests := true, laidLooks := .later }
def ArrayJobsCardSaid : Prop := Claim7.holds Tryz.pinned (.plain (OpenSpec.ofChange arrayJobsSpec)) arrayJobsCard

/-- THE SECOND FORM's CARD OF 'musterlaw19.ArrayTexts'. -/
def arrayTextsUptoCard : Claim7 := { stood := { row := arrayTextsUptoRow, standIns := [], harness := (true, "30269870655fdb842ad0fb77bc902215a9cf6cd8dae8ec6c5a4db6ecc07c3c09"), looks := false }, kinds := [], alts := [], laidByText := true, laidKinds := [.data, .data, .data, .data, .pinned], laidTests := true, laidLooks := .later }
def ArrayTextsUptoCardSaid : Prop := Claim7.holds Tryz.pinned (.plain (OpenSpec.upto arrayTextsSpec)) arrayTextsUptoCard

/-- THE SECOND FORM's CARD OF 'musterlaw19.ArrayJobs'. -/
def arrayJobsUptoCard : Claim7 := { stood := { row := arrayJobsUptoRow, standIns := [], harness := (true, "30269870655fdb842ad0fb77bc902215a9cf6cd8dae8ec6c5a4db6ecc07c3c09"), looks := false }, kinds := [], alts := [], laidByText := true, laidKinds := [.data, .data, .data, .data, .pinned], laidTests := true, laidLooks := .later }
def ArrayJobsUptoCardSaid : Prop := Claim7.holds Tryz.pinned (.plain (OpenSpec.upto arrayJobsSpec)) arrayJobsUptoCard
end Rows
end Go.Proofs.YtomdghodbkhkaaaGreatDoor
