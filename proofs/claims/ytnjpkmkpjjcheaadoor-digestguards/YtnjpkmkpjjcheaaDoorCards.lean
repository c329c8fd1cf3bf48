/-
  DERIVED. GIVEN WITH THE SEED: THE CARDS: each row of YtnjpkmkpjjcheaaDoorRows.lean that lists a variable, with what it lists TIED to the program's text (the seventh form; the later family's looks); each row that meets fmt, with fmt's text TOLD by the authors' own Lean function (tested against real Go, not proved from fmt's source: count such statements apart). THE CARD IS WHAT COUNTS. Prove the row's statement (the work); the ties are given (YtnjpkmkpjjcheaaDoorTie.lean); close each card by the builder's one call (the guide's Derived/Test/ToyasCard.lean, 'card_holds'). Laid BY PROGRAM, IN A SANDBOX (cutbox-door.mjs). By AI agents, Wed Nov 11 2026. No macro, syntax, notation, axiom, sorry.
-/
import Derived.Test.YtnjpkmkpjjcheaaDoorRows
import GoSem.ClaimSeven
namespace Go.Proofs.YtnjpkmkpjjcheaaDoor
namespace Rows

/-- THE TIED CARD OF 'foundrylaw.DigestRoots'. -/
def digestRootsCard : Claim7 := { stood := { row := digestRootsRow, standIns := [], harness := (true, "2ddee155a9c5a8a162e76fb9fd65dd6adae9b10a769f7f6e56a963fc6210d7ab"), looks := false }, kinds := [], alts := [], laidByText := true, laidKinds := [.data, .data], laidTests := true, laidLooks := .later }
def DigestRootsCardSaid : Prop := Claim7.holds Tryd.pinned (.plain (OpenSpec.ofChange digestRootsSpec)) digestRootsCard

/-- THE TIED CARD OF 'foundrylaw.DigestProofs'. -/
def digestProofsCard : Claim7 := { stood := { row := digestProofsRow, standIns := [], harness := (true, "2ddee155a9c5a8a162e76fb9fd65dd6adae9b10a769f7f6e56a963fc6210d7ab"), looks := false }, kinds := [], alts := [], laidByText := true, laidKinds := [.data, .data], laidTests := true, laidLooks := .later }
def DigestProofsCardSaid : Prop := Claim7.holds Tryd.pinned (.plain (OpenSpec.ofChange digestProofsSpec)) digestProofsCard

/-- THE TIED CARD OF 'foundrylaw.DigestShows'. -/
def digestShowsCard : Claim7 := { stood := { row := digestShowsRow, standIns := [], harness := (true, "2ddee155a9c5a8a162e76fb9fd65dd6adae9b10a769f7f6e56a963fc6210d7ab"), looks := false }, kinds := [], alts := [], laidByText := true, laidKinds := [.data, .data], laidTests := true, laidLooks := .later }
def DigestShowsCardSaid : Prop := Claim7.holds Tryd.pinned (.plain (OpenSpec.ofChange digestShowsSpec)) digestShowsCard

/-- THE TIED CARD OF 'foundrylaw.DigestGuards'. -/
def digestGuardsCard : Claim7 := { stood := { row := digestGuardsRow, standIns := [], harness := (true, "2ddee155a9c5a8a162e76fb9fd65dd6adae9b10a769f7f6e56a963fc6210d7ab"), looks := false }, kinds := [], alts := [], laidByText := true, laidKinds := [.data, .data], laidTests := true, laidLooks := .later }
def DigestGuardsCardSaid : Prop := Claim7.holds Tryd.pinned (.plain (OpenSpec.ofChange digestGuardsSpec)) digestGuardsCard

/-- THE SECOND FORM's CARD OF 'foundrylaw.DigestRoots'. -/
def digestRootsUptoCard : Claim7 := { stood := { row := digestRootsUptoRow, standIns := [], harness := (true, "2ddee155a9c5a8a162e76fb9fd65dd6adae9b10a769f7f6e56a963fc6210d7ab"), looks := false }, kinds := [], alts := [], laidByText := true, laidKinds := [.data, .data], laidTests := true, laidLooks := .later }
def DigestRootsUptoCardSaid : Prop := Claim7.holds Tryd.pinned (.plain (OpenSpec.upto digestRootsSpec)) digestRootsUptoCard

/-- THE SECOND FORM's CARD OF 'foundrylaw.DigestProofs'. -/
def digestProofsUptoCard : Claim7 := { stood := { row := digestProofsUptoRow, standIns := [], harness := (true, "2ddee155a9c5a8a162e76fb9fd65dd6adae9b10a769f7f6e56a963fc6210d7ab"), looks := false }, kinds := [], alts := [], laidByText := true, laidKinds := [.data, .data], laidTests := true, laidLooks := .later }
def DigestProofsUptoCardSaid : Prop := Claim7.holds Tryd.pinned (.plain (OpenSpec.upto digestProofsSpec)) digestProofsUptoCard

/-- THE SECOND FORM's CARD OF 'foundrylaw.DigestShows'. -/
def digestShowsUptoCard : Claim7 := { stood := { row := digestShowsUptoRow, standIns := [], harness := (true, "2ddee155a9c5a8a162e76fb9fd65dd6adae9b10a769f7f6e56a963fc6210d7ab"), looks := false }, kinds := [], alts := [], laidByText := true, laidKinds := [.data, .data], laidTests := true, laidLooks := .later }
def DigestShowsUptoCardSaid : Prop := Claim7.holds Tryd.pinned (.plain (OpenSpec.upto digestShowsSpec)) digestShowsUptoCard

/-- THE SECOND FORM's CARD OF 'foundrylaw.DigestGuards'. -/
def digestGuardsUptoCard : Claim7 := { stood := { row := digestGuardsUptoRow, standIns := [], harness := (true, "2ddee155a9c5a8a162e76fb9fd65dd6adae9b10a769f7f6e56a963fc6210d7ab"), looks := false }, kinds := [], alts := [], laidByText := true, laidKinds := [.data, .data], laidTests := true, laidLooks := .later }
def DigestGuardsUptoCardSaid : Prop := Claim7.holds Tryd.pinned (.plain (OpenSpec.upto digestGuardsSpec)) digestGuardsUptoCard
end Rows
end Go.Proofs.YtnjpkmkpjjcheaaDoor
