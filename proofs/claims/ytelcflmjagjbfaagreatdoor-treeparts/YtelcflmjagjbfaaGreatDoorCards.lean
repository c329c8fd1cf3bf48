/-
  DERIVED. GIVEN WITH THE SEED: THE CARDS: each row of YtelcflmjagjbfaaGreatDoorRows.lean that lists a variable, with what it lists TIED to the program's text (the seventh form; the later family's looks); each row that meets fmt, with fmt's text TOLD by the authors' own Lean function (tested against real Go, not proved from fmt's source: count such statements apart). THE CARD IS WHAT COUNTS. Prove the row's statement (the work); the ties are given (YtelcflmjagjbfaaGreatDoorTie.lean); close each card by the builder's one call (the guide's Derived/Test/ToyasCard.lean, 'card_holds'). Laid BY PROGRAM, IN A SANDBOX (cutbox-door.mjs). By AI agents, Wed Nov 11 2026. No macro, syntax, notation, axiom, sorry.
-/
import Derived.Test.YtelcflmjagjbfaaGreatDoorRows
import GoSem.ClaimSeven
namespace Go.Proofs.YtelcflmjagjbfaaGreatDoor
namespace Rows

/-- THE TIED CARD OF 'foundrylaw.TreeUnders'. -/
def treeUndersCard : Claim7 := { stood := { row := treeUndersRow, standIns := [], harness := (true, "fa804bf4a132dbf92769f3836c6fdf60244cfc21880bfbd455f4f575c3e2618a"), looks := true }, kinds := [], alts := [], laidByText := true, laidKinds := [.data, .data, .data, .pinned], laidTests := true, laidLooks := .later }
def TreeUndersCardSaid : Prop := Claim7.holds Tryz.pinned (.plain (OpenSpec.ofChange treeUndersSpec)) treeUndersCard

/-- THE TIED CARD OF 'foundrylaw.TreeOvers'. -/
def treeOversCard : Claim7 := { stood := { row := treeOversRow, standIns := [], harness := (true, "fa804bf4a132dbf92769f3836c6fdf60244cfc21880bfbd455f4f575c3e2618a"), looks := true }, kinds := [], alts := [], laidByText := true, laidKinds := [.data, .data, .data, .pinned], laidTests := true, laidLooks := .later }
def TreeOversCardSaid : Prop := Claim7.holds Tryz.pinned (.plain (OpenSpec.ofChange treeOversSpec)) treeOversCard

/-- THE TIED CARD OF 'foundrylaw.TreeDiffers'. -/
def treeDiffersCard : Claim7 := { stood := { row := treeDiffersRow, standIns := [], harness := (true, "fa804bf4a132dbf92769f3836c6fdf60244cfc21880bfbd455f4f575c3e2618a"), looks := true }, kinds := [], alts := [], laidByText := true, laidKinds := [.data, .data, .data, .pinned], laidTests := true, laidLooks := .later }
def TreeDiffersCardSaid : Prop := Claim7.holds Tryz.pinned (.plain (OpenSpec.ofChange treeDiffersSpec)) treeDiffersCard

/-- THE TIED CARD OF 'foundrylaw.TreeParts'. -/
def treePartsCard : Claim7 := { stood := { row := treePartsRow, standIns := [], harness := (true, "fa804bf4a132dbf92769f3836c6fdf60244cfc21880bfbd455f4f575c3e2618a"), looks := true }, kinds := [], alts := [], laidByText := true, laidKinds := [.data, .data, .data, .pinned], laidTests := true, laidLooks := .later }
def TreePartsCardSaid : Prop := Claim7.holds Tryz.pinned (.plain (OpenSpec.ofChange treePartsSpec)) treePartsCard

/-- THE TIED CARD OF 'foundrylaw.TreeLays'. -/
def treeLaysCard : Claim7 := { stood := { row := treeLaysRow, standIns := [], harness := (true, "fa804bf4a132dbf92769f3836c6fdf60244cfc21880bfbd455f4f575c3e2618a"), looks := true }, kinds := [], alts := [], laidByText := true, laidKinds := [.data, .data, .data, .pinned], laidTests := true, laidLooks := .later }
def TreeLaysCardSaid : Prop := Claim7.holds Tryz.pinned (.plain (OpenSpec.ofChange treeLaysSpec)) treeLaysCard

/-- THE SECOND FORM's CARD OF 'foundrylaw.TreeUnders'. -/
def treeUndersUptoCard : Claim7 := { stood := { row := treeUndersUptoRow, standIns := [], harness := (true, "fa804bf4a132dbf92769f3836c6fdf60244cfc21880bfbd455f4f575c3e2618a"), looks := true }, kinds := [], alts := [], laidByText := true, laidKinds := [.data, .data, .data, .pinned], laidTests := true, laidLooks := .later }
def TreeUndersUptoCardSaid : Prop := Claim7.holds Tryz.pinned (.plain (OpenSpec.upto treeUndersSpec)) treeUndersUptoCard

/-- THE SECOND FORM's CARD OF 'foundrylaw.TreeOvers'. -/
def treeOversUptoCard : Claim7 := { stood := { row := treeOversUptoRow, standIns := [], harness := (true, "fa804bf4a132dbf92769f3836c6fdf60244cfc21880bfbd455f4f575c3e2618a"), looks := true }, kinds := [], alts := [], laidByText := true, laidKinds := [.data, .data, .data, .pinned], laidTests := true, laidLooks := .later }
def TreeOversUptoCardSaid : Prop := Claim7.holds Tryz.pinned (.plain (OpenSpec.upto treeOversSpec)) treeOversUptoCard

/-- THE SECOND FORM's CARD OF 'foundrylaw.TreeDiffers'. -/
def treeDiffersUptoCard : Claim7 := { stood := { row := treeDiffersUptoRow, standIns := [], harness := (true, "fa804bf4a132dbf92769f3836c6fdf60244cfc21880bfbd455f4f575c3e2618a"), looks := true }, kinds := [], alts := [], laidByText := true, laidKinds := [.data, .data, .data, .pinned], laidTests := true, laidLooks := .later }
def TreeDiffersUptoCardSaid : Prop := Claim7.holds Tryz.pinned (.plain (OpenSpec.upto treeDiffersSpec)) treeDiffersUptoCard

/-- THE SECOND FORM's CARD OF 'foundrylaw.TreeParts'. -/
def treePartsUptoCard : Claim7 := { stood := { row := treePartsUptoRow, standIns := [], harness := (true, "fa804bf4a132dbf92769f3836c6fdf60244cfc21880bfbd455f4f575c3e2618a"), looks := true }, kinds := [], alts := [], laidByText := true, laidKinds := [.data, .data, .data, .pinned], laidTests := true, laidLooks := .later }
def TreePartsUptoCardSaid : Prop := Claim7.holds Tryz.pinned (.plain (OpenSpec.upto treePartsSpec)) treePartsUptoCard

/-- THE SECOND FORM's CARD OF 'foundrylaw.TreeLays'. -/
def treeLaysUptoCard : Claim7 := { stood := { row := treeLaysUptoRow, standIns := [], harness := (true, "fa804bf4a132dbf92769f3836c6fdf60244cfc21880bfbd455f4f575c3e2618a"), looks := true }, kinds := [], alts := [], laidByText := true, laidKinds := [.data, .data, .data, .pinned], laidTests := true, laidLooks := .later }
def TreeLaysUptoCardSaid : Prop := Claim7.holds Tryz.pinned (.plain (OpenSpec.upto treeLaysSpec)) treeLaysUptoCard
end Rows
end Go.Proofs.YtelcflmjagjbfaaGreatDoor
