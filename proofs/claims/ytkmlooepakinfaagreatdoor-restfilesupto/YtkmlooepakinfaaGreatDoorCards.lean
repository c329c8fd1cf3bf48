/-
  DERIVED. GIVEN WITH THE SEED: THE CARDS: each row of YtkmlooepakinfaaGreatDoorRows.lean that lists a variable, with what it lists TIED to the program's text (the seventh form; the later family's looks); each row that meets fmt, with fmt's text TOLD by the authors' own Lean function (tested against real Go, not proved from fmt's source: count such statements apart). THE CARD IS WHAT COUNTS. Prove the row's statement (the work); the ties are given (YtkmlooepakinfaaGreatDoorTie.lean); close each card by the builder's one call (the guide's Derived/Test/ToyasCard.lean, 'card_holds'). Laid BY PROGRAM, IN A SANDBOX (cutbox-door.mjs). By AI agents, Wed Nov 11 2026. No macro, syntax, notation, axiom, sorry.
-/
import Derived.Test.YtkmlooepakinfaaGreatDoorRows
import GoSem.ClaimSeven
namespace Go.Proofs.YtkmlooepakinfaaGreatDoor
namespace Rows

/-- THE TIED CARD OF 'foundrylaw.RestFiles'. -/
def restFilesCard : Claim7 := { stood := { row := restFilesRow, standIns := [], harness := (true, "0edfdd341a1441377bc814db7403da950699585bb500a2b3e983a3d87ad19f23"), looks := true }, kinds := [], alts := [], laidByText := true, laidKinds := [.data, .data, .data, .pinned], laidTests := true, laidLooks := .later }
def RestFilesCardSaid : Prop := Claim7.holds Tryz.pinned (.plain (OpenSpec.ofChange restFilesSpec)) restFilesCard

/-- THE SECOND FORM's CARD OF 'foundrylaw.RestFiles'. -/
def restFilesUptoCard : Claim7 := { stood := { row := restFilesUptoRow, standIns := [], harness := (true, "0edfdd341a1441377bc814db7403da950699585bb500a2b3e983a3d87ad19f23"), looks := true }, kinds := [], alts := [], laidByText := true, laidKinds := [.data, .data, .data, .pinned], laidTests := true, laidLooks := .later }
def RestFilesUptoCardSaid : Prop := Claim7.holds Tryz.pinned (.plain (OpenSpec.upto restFilesSpec)) restFilesUptoCard
end Rows
end Go.Proofs.YtkmlooepakinfaaGreatDoor
