/-
  DERIVED. GIVEN WITH THE SEED: THE CARDS: each row of YtagelkaenbdlaaaDoorRows.lean that lists a variable, with what it lists TIED to the program's text (the seventh form; the later family's looks); each row that meets fmt, with fmt's text TOLD by the authors' own Lean function (tested against real Go, not proved from fmt's source: count such statements apart). THE CARD IS WHAT COUNTS. Prove the row's statement (the work); the ties are given (YtagelkaenbdlaaaDoorTie.lean); close each card by the builder's one call (the guide's Derived/Test/ToyasCard.lean, 'card_holds'). Laid BY PROGRAM, IN A SANDBOX (cutbox-door.mjs). By AI agents, Wed Nov 11 2026. No macro, syntax, notation, axiom, sorry.
-/
import Derived.Test.YtagelkaenbdlaaaDoorRows
import GoSem.ClaimSeven
namespace Go.Proofs.YtagelkaenbdlaaaDoor
namespace Rows

/-- THE TIED CARD OF 'foundrylaw.DigestSums'. -/
def digestSumsCard : Claim7 := { stood := { row := digestSumsRow, standIns := [], harness := (true, "0104bf23fd3d3b47d253476c712cf19fc3950443236afc3673ec8125b4fbdbab"), looks := false }, kinds := [], alts := [], laidByText := true, laidKinds := [.data, .data], laidTests := true, laidLooks := .later }
def DigestSumsCardSaid : Prop := Claim7.holds Tryd.pinned (.plain (OpenSpec.ofChange digestSumsSpec)) digestSumsCard

/-- THE TIED CARD OF 'foundrylaw.DigestRoots'. -/
def digestRootsCard : Claim7 := { stood := { row := digestRootsRow, standIns := [], harness := (true, "0104bf23fd3d3b47d253476c712cf19fc3950443236afc3673ec8125b4fbdbab"), looks := false }, kinds := [], alts := [], laidByText := true, laidKinds := [.data, .data], laidTests := true, laidLooks := .later }
def DigestRootsCardSaid : Prop := Claim7.holds Tryd.pinned (.plain (OpenSpec.ofChange digestRootsSpec)) digestRootsCard

/-- THE TIED CARD OF 'foundrylaw.DigestProofs'. -/
def digestProofsCard : Claim7 := { stood := { row := digestProofsRow, standIns := [], harness := (true, "0104bf23fd3d3b47d253476c712cf19fc3950443236afc3673ec8125b4fbdbab"), looks := false }, kinds := [], alts := [], laidByText := true, laidKinds := [.data, .data], laidTests := true, laidLooks := .later }
def DigestProofsCardSaid : Prop := Claim7.holds Tryd.pinned (.plain (OpenSpec.ofChange digestProofsSpec)) digestProofsCard

/-- THE TIED CARD OF 'foundrylaw.DigestShows'. -/
def digestShowsCard : Claim7 := { stood := { row := digestShowsRow, standIns := [], harness := (true, "0104bf23fd3d3b47d253476c712cf19fc3950443236afc3673ec8125b4fbdbab"), looks := false }, kinds := [], alts := [], laidByText := true, laidKinds := [.data, .data], laidTests := true, laidLooks := .later }
def DigestShowsCardSaid : Prop := Claim7.holds Tryd.pinned (.plain (OpenSpec.ofChange digestShowsSpec)) digestShowsCard

/-- THE TIED CARD OF 'foundrylaw.DigestGuards'. -/
def digestGuardsCard : Claim7 := { stood := { row := digestGuardsRow, standIns := [], harness := (true, "0104bf23fd3d3b47d253476c712cf19fc3950443236afc3673ec8125b4fbdbab"), looks := false }, kinds := [], alts := [], laidByText := true, laidKinds := [.data, .data], laidTests := true, laidLooks := .later }
def DigestGuardsCardSaid : Prop := Claim7.holds Tryd.pinned (.plain (OpenSpec.ofChange digestGuardsSpec)) digestGuardsCard

/-- THE TIED CARD OF 'foundrylaw.DigestPairs'. -/
def digestPairsCard : Claim7 := { stood := { row := digestPairsRow, standIns := [], harness := (true, "0104bf23fd3d3b47d253476c712cf19fc3950443236afc3673ec8125b4fbdbab"), looks := false }, kinds := [], alts := [], laidByText := true, laidKinds := [.data, .data], laidTests := true, laidLooks := .later }
def DigestPairsCardSaid : Prop := Claim7.holds Tryd.pinned (.plain (OpenSpec.ofChange digestPairsSpec)) digestPairsCard

/-- THE SECOND FORM's CARD OF 'foundrylaw.DigestSums'. -/
def digestSumsUptoCard : Claim7 := { stood := { row := digestSumsUptoRow, standIns := [], harness := (true, "0104bf23fd3d3b47d253476c712cf19fc3950443236afc3673ec8125b4fbdbab"), looks := false }, kinds := [], alts := [], laidByText := true, laidKinds := [.data, .data], laidTests := true, laidLooks := .later }
def DigestSumsUptoCardSaid : Prop := Claim7.holds Tryd.pinned (.plain (OpenSpec.upto digestSumsSpec)) digestSumsUptoCard

/-- THE SECOND FORM's CARD OF 'foundrylaw.DigestRoots'. -/
def digestRootsUptoCard : Claim7 := { stood := { row := digestRootsUptoRow, standIns := [], harness := (true, "0104bf23fd3d3b47d253476c712cf19fc3950443236afc3673ec8125b4fbdbab"), looks := false }, kinds := [], alts := [], laidByText := true, laidKinds := [.data, .data], laidTests := true, laidLooks := .later }
def DigestRootsUptoCardSaid : Prop := Claim7.holds Tryd.pinned (.plain (OpenSpec.upto digestRootsSpec)) digestRootsUptoCard

/-- THE SECOND FORM's CARD OF 'foundrylaw.DigestProofs'. -/
def digestProofsUptoCard : Claim7 := { stood := { row := digestProofsUptoRow, standIns := [], harness := (true, "0104bf23fd3d3b47d253476c712cf19fc3950443236afc3673ec8125b4fbdbab"), looks := false }, kinds := [], alts := [], laidByText := true, laidKinds := [.data, .data], laidTests := true, laidLooks := .later }
def DigestProofsUptoCardSaid : Prop := Claim7.holds Tryd.pinned (.plain (OpenSpec.upto digestProofsSpec)) digestProofsUptoCard

/-- THE SECOND FORM's CARD OF 'foundrylaw.DigestShows'. -/
def digestShowsUptoCard : Claim7 := { stood := { row := digestShowsUptoRow, standIns := [], harness := (true, "0104bf23fd3d3b47d253476c712cf19fc3950443236afc3673ec8125b4fbdbab"), looks := false }, kinds := [], alts := [], laidByText := true, laidKinds := [.data, .data], laidTests := true, laidLooks := .later }
def DigestShowsUptoCardSaid : Prop := Claim7.holds Tryd.pinned (.plain (OpenSpec.upto digestShowsSpec)) digestShowsUptoCard

/-- THE SECOND FORM's CARD OF 'foundrylaw.DigestGuards'. -/
def digestGuardsUptoCard : Claim7 := { stood := { row := digestGuardsUptoRow, standIns := [], harness := (true, "0104bf23fd3d3b47d253476c712cf19fc3950443236afc3673ec8125b4fbdbab"), looks := false }, kinds := [], alts := [], laidByText := true, laidKinds := [.data, .data], laidTests := true, laidLooks := .later }
def DigestGuardsUptoCardSaid : Prop := Claim7.holds Tryd.pinned (.plain (OpenSpec.upto digestGuardsSpec)) digestGuardsUptoCard

/-- THE SECOND FORM's CARD OF 'foundrylaw.DigestPairs'. -/
def digestPairsUptoCard : Claim7 := { stood := { row := digestPairsUptoRow, standIns := [], harness := (true, "0104bf23fd3d3b47d253476c712cf19fc3950443236afc3673ec8125b4fbdbab"), looks := false }, kinds := [], alts := [], laidByText := true, laidKinds := [.data, .data], laidTests := true, laidLooks := .later }
def DigestPairsUptoCardSaid : Prop := Claim7.holds Tryd.pinned (.plain (OpenSpec.upto digestPairsSpec)) digestPairsUptoCard
end Rows
end Go.Proofs.YtagelkaenbdlaaaDoor
