/-
  DERIVED. GIVEN WITH THE SEED: THE CARDS: each row of YtomdghodbkhkaaaDoorRows.lean that lists a variable, with what it lists TIED to the program's text (the seventh form; the later family's looks); each row that meets fmt, with fmt's text TOLD by the authors' own Lean function (tested against real Go, not proved from fmt's source: count such statements apart). THE CARD IS WHAT COUNTS. Prove the row's statement (the work); the ties are given (YtomdghodbkhkaaaDoorTie.lean); close each card by the builder's one call (the guide's Derived/Test/ToyasCard.lean, 'card_holds'). Laid BY PROGRAM, IN A SANDBOX (cutbox-door.mjs). By AI agents, Wed Nov 11 2026. No macro, syntax, notation, axiom, sorry.
-/
import Derived.Test.YtomdghodbkhkaaaDoorRows
import GoSem.ClaimSeven
namespace Go.Proofs.YtomdghodbkhkaaaDoor
namespace Rows

/-- THE TIED CARD OF 'musterlaw19.ArrayBack'. -/
def arrayBackCard : Claim7 := { stood := { row := arrayBackRow, standIns := [], harness := (true, "5e31c6e7c760da29c528f173bbfd0a1f346afa66f70a2d7cd8c134d74fa98910"), looks := false }, kinds := [], alts := [], laidByText := true, laidKinds := [.data, .data, .data, .data, .pinned], laidTests := true, laidLooks := .later }
def ArrayBackCardSaid : Prop := Claim7.holds Tryd.pinned (.plain (OpenSpec.ofChange arrayBackSpec)) arrayBackCard

/-- THE TIED CARD OF 'musterlaw19.ArrayIds'. -/
def arrayIdsCard : Claim7 := { stood := { row := arrayIdsRow, standIns := [], harness := (true, "5e31c6e7c760da29c528f173bbfd0a1f346afa66f70a2d7cd8c134d74fa98910"), looks := false }, kinds := [], alts := [], laidByText := true, laidKinds := [.data, .data, .data, .data, .pinned], laidTests := true, laidLooks := .later }
def ArrayIdsCardSaid : Prop := Claim7.holds Tryd.pinned (.plain (OpenSpec.ofChange arrayIdsSpec)) arrayIdsCard

/-- THE SECOND FORM's CARD OF 'musterlaw19.ArrayBack'. -/
def arrayBackUptoCard : Claim7 := { stood := { row := arrayBackUptoRow, standIns := [], harness := (true, "5e31c6e7c760da29c528f173bbfd0a1f346afa66f70a2d7cd8c134d74fa98910"), looks := false }, kinds := [], alts := [], laidByText := true, laidKinds := [.data, .data, .data, .data, .pinned], laidTests := true, laidLooks := .later }
def ArrayBackUptoCardSaid : Prop := Claim7.holds Tryd.pinned (.plain (OpenSpec.upto arrayBackSpec)) arrayBackUptoCard

/-- THE SECOND FORM's CARD OF 'musterlaw19.ArrayIds'. -/
def arrayIdsUptoCard : Claim7 := { stood := { row := arrayIdsUptoRow, standIns := [], harness := (true, "5e31c6e7c760da29c528f173bbfd0a1f346afa66f70a2d7cd8c134d74fa98910"), looks := false }, kinds := [], alts := [], laidByText := true, laidKinds := [.data, .data, .data, .data, .pinned], laidTests := true, laidLooks := .later }
def ArrayIdsUptoCardSaid : Prop := Claim7.holds Tryd.pinned (.plain (OpenSpec.upto arrayIdsSpec)) arrayIdsUptoCard
end Rows
end Go.Proofs.YtomdghodbkhkaaaDoor
