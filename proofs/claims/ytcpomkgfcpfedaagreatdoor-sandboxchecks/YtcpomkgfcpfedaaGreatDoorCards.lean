/-
  DERIVED. GIVEN WITH THE SEED: THE CARDS: each row of YtcpomkgfcpfedaaGreatDoorRows.lean that lists a variable, with what it lists TIED to the program's text (the seventh form; the later family's looks); each row that meets fmt, with fmt's text TOLD by the authors' own Lean function (tested against real Go, not proved from fmt's source: count such statements apart). THE CARD IS WHAT COUNTS. Prove the row's statement (the work); the ties are given (YtcpomkgfcpfedaaGreatDoorTie.lean); close each card by the builder's one call (the guide's Derived/Test/ToyasCard.lean, 'card_holds'). Laid BY PROGRAM, IN A SANDBOX (cutbox-door.mjs). By AI agents, Wed Nov 11 2026. No macro, syntax, notation, axiom, sorry.
-/
import Derived.Test.YtcpomkgfcpfedaaGreatDoorRows
import GoSem.ClaimSeven
namespace Go.Proofs.YtcpomkgfcpfedaaGreatDoor
namespace Rows

/-- THE TIED CARD OF 'foundrylaw.SandboxChecks'. -/
def sandboxChecksCard : Claim7 := { stood := { row := sandboxChecksRow, standIns := [], harness := (true, "be367e6812b1a9045a0f104d3e1c58ed769c596ed1b17ebf8dce18126b221d3f"), looks := false }, kinds := [], alts := [], laidByText := true, laidKinds := [.data, .data, .data, .data, .data, .data, .pinned], laidTests := true, laidLooks := .later }
def SandboxChecksCardSaid : Prop := Claim7.holds Tryz.pinned (.plain (OpenSpec.ofChange sandboxChecksSpec)) sandboxChecksCard

/-- THE SECOND FORM's CARD OF 'foundrylaw.SandboxChecks'. -/
def sandboxChecksUptoCard : Claim7 := { stood := { row := sandboxChecksUptoRow, standIns := [], harness := (true, "be367e6812b1a9045a0f104d3e1c58ed769c596ed1b17ebf8dce18126b221d3f"), looks := false }, kinds := [], alts := [], laidByText := true, laidKinds := [.data, .data, .data, .data, .data, .data, .pinned], laidTests := true, laidLooks := .later }
def SandboxChecksUptoCardSaid : Prop := Claim7.holds Tryz.pinned (.plain (OpenSpec.upto sandboxChecksSpec)) sandboxChecksUptoCard
end Rows
end Go.Proofs.YtcpomkgfcpfedaaGreatDoor
