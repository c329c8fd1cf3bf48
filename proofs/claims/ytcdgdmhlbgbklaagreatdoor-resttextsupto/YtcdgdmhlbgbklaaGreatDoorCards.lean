/-
  DERIVED. GIVEN WITH THE SEED: THE CARDS: each row of YtcdgdmhlbgbklaaGreatDoorRows.lean that lists a variable, with what it lists TIED to the program's text (the seventh form; the later family's looks); each row that meets fmt, with fmt's text TOLD by the authors' own Lean function (tested against real Go, not proved from fmt's source: count such statements apart). THE CARD IS WHAT COUNTS. Prove the row's statement (the work); the ties are given (YtcdgdmhlbgbklaaGreatDoorTie.lean); close each card by the builder's one call (the guide's Derived/Test/ToyasCard.lean, 'card_holds'). Laid BY PROGRAM, IN A SANDBOX (cutbox-door.mjs). By AI agents, Wed Nov 11 2026. No macro, syntax, notation, axiom, sorry.
-/
import Derived.Test.YtcdgdmhlbgbklaaGreatDoorRows
import GoSem.ClaimSeven
namespace Go.Proofs.YtcdgdmhlbgbklaaGreatDoor
namespace Rows

/-- THE TIED CARD OF 'foundrylaw.RestTexts'. -/
def restTextsCard : Claim7 := { stood := { row := restTextsRow, standIns := [], harness := (true, "7e198ca1e2db85bcc4b5ede6ab6c352d98f15080892f4ad53e0ec678dd7db6d8"), looks := false }, kinds := [], alts := [], laidByText := true, laidKinds := [.data, .data, .data, .pinned], laidTests := true, laidLooks := .later }
def RestTextsCardSaid : Prop := Claim7.holds Tryz.pinned (.plain (OpenSpec.ofChange restTextsSpec)) restTextsCard

/-- THE SECOND FORM's CARD OF 'foundrylaw.RestTexts'. -/
def restTextsUptoCard : Claim7 := { stood := { row := restTextsUptoRow, standIns := [], harness := (true, "7e198ca1e2db85bcc4b5ede6ab6c352d98f15080892f4ad53e0ec678dd7db6d8"), looks := false }, kinds := [], alts := [], laidByText := true, laidKinds := [.data, .data, .data, .pinned], laidTests := true, laidLooks := .later }
def RestTextsUptoCardSaid : Prop := Claim7.holds Tryz.pinned (.plain (OpenSpec.upto restTextsSpec)) restTextsUptoCard
end Rows
end Go.Proofs.YtcdgdmhlbgbklaaGreatDoor
