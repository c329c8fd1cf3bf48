/-
  DERIVED. GIVEN WITH THE SEED: THE CARDS: each row of YteglldckbcclnaaGreatDoorRows.lean that lists a variable, with what it lists TIED to the program's text (the seventh form; the later family's looks); each row that meets fmt, with fmt's text TOLD by the authors' own Lean function (tested against real Go, not proved from fmt's source: count such statements apart). THE CARD IS WHAT COUNTS. Prove the row's statement (the work); the ties are given (YteglldckbcclnaaGreatDoorTie.lean); close each card by the builder's one call (the guide's Derived/Test/ToyasCard.lean, 'card_holds'). Laid BY PROGRAM, IN A SANDBOX (cutbox-door.mjs). By AI agents, Wed Nov 11 2026. No macro, syntax, notation, axiom, sorry.
-/
import Derived.Test.YteglldckbcclnaaGreatDoorRows
import GoSem.ClaimSeven
namespace Go.Proofs.YteglldckbcclnaaGreatDoor
namespace Rows

/-- THE TIED CARD OF 'foundrylaw.TreeChecks'. -/
def treeChecksCard : Claim7 := { stood := { row := treeChecksRow, standIns := [], harness := (true, "f0d1fd94cd6513874c267c99f45cbb6f3f6c4dcfb3396debde12c63f0f9f8a7f"), looks := false }, kinds := [], alts := [], laidByText := true, laidKinds := [.data, .data, .data, .pinned], laidTests := true, laidLooks := .later }
def TreeChecksCardSaid : Prop := Claim7.holds Tryz.pinned (.plain (OpenSpec.ofChange treeChecksSpec)) treeChecksCard

/-- THE TIED CARD OF 'foundrylaw.TreeMeets'. -/
def treeMeetsCard : Claim7 := { stood := { row := treeMeetsRow, standIns := [], harness := (true, "f0d1fd94cd6513874c267c99f45cbb6f3f6c4dcfb3396debde12c63f0f9f8a7f"), looks := false }, kinds := [], alts := [], laidByText := true, laidKinds := [.data, .data, .data, .pinned], laidTests := true, laidLooks := .later }
def TreeMeetsCardSaid : Prop := Claim7.holds Tryz.pinned (.plain (OpenSpec.ofChange treeMeetsSpec)) treeMeetsCard

/-- THE SECOND FORM's CARD OF 'foundrylaw.TreeChecks'. -/
def treeChecksUptoCard : Claim7 := { stood := { row := treeChecksUptoRow, standIns := [], harness := (true, "f0d1fd94cd6513874c267c99f45cbb6f3f6c4dcfb3396debde12c63f0f9f8a7f"), looks := false }, kinds := [], alts := [], laidByText := true, laidKinds := [.data, .data, .data, .pinned], laidTests := true, laidLooks := .later }
def TreeChecksUptoCardSaid : Prop := Claim7.holds Tryz.pinned (.plain (OpenSpec.upto treeChecksSpec)) treeChecksUptoCard

/-- THE SECOND FORM's CARD OF 'foundrylaw.TreeMeets'. -/
def treeMeetsUptoCard : Claim7 := { stood := { row := treeMeetsUptoRow, standIns := [], harness := (true, "f0d1fd94cd6513874c267c99f45cbb6f3f6c4dcfb3396debde12c63f0f9f8a7f"), looks := false }, kinds := [], alts := [], laidByText := true, laidKinds := [.data, .data, .data, .pinned], laidTests := true, laidLooks := .later }
def TreeMeetsUptoCardSaid : Prop := Claim7.holds Tryz.pinned (.plain (OpenSpec.upto treeMeetsSpec)) treeMeetsUptoCard
end Rows
end Go.Proofs.YteglldckbcclnaaGreatDoor
