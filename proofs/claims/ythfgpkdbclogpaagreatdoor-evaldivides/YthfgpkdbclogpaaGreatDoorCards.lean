/-
  DERIVED. GIVEN WITH THE SEED: THE CARDS: each row of YthfgpkdbclogpaaGreatDoorRows.lean that lists a variable, with what it lists TIED to the program's text (the seventh form; the later family's looks); each row that meets fmt, with fmt's text TOLD by the authors' own Lean function (tested against real Go, not proved from fmt's source: count such statements apart). THE CARD IS WHAT COUNTS. Prove the row's statement (the work); the ties are given (YthfgpkdbclogpaaGreatDoorTie.lean); close each card by the builder's one call (the guide's Derived/Test/ToyasCard.lean, 'card_holds'). Laid BY PROGRAM, IN A SANDBOX (cutbox-door.mjs). By AI agents, Wed Nov 11 2026. No macro, syntax, notation, axiom, sorry.
-/
import Derived.Test.YthfgpkdbclogpaaGreatDoorRows
import GoSem.ClaimSeven
namespace Go.Proofs.YthfgpkdbclogpaaGreatDoor
namespace Rows

/-- THE TIED CARD OF 'foundrylaw.EvalDivides'. -/
def evalDividesCard : Claim7 := { stood := { row := evalDividesRow, standIns := [], harness := (true, "649c0c782e15ef5b2f6df512e613eeb663150a05cda5f7ecb03ddb5be4f2aa91"), looks := true }, kinds := [], alts := [], laidByText := true, laidKinds := [.data, .data, .data, .data, .sentinel, .sentinel, .pinned], laidTests := true, laidLooks := .later }
def EvalDividesCardSaid : Prop := Claim7.holds Tryz.pinned (.plain (OpenSpec.ofChange evalDividesSpec)) evalDividesCard

/-- THE SECOND FORM's CARD OF 'foundrylaw.EvalDivides'. -/
def evalDividesUptoCard : Claim7 := { stood := { row := evalDividesUptoRow, standIns := [], harness := (true, "649c0c782e15ef5b2f6df512e613eeb663150a05cda5f7ecb03ddb5be4f2aa91"), looks := true }, kinds := [], alts := [], laidByText := true, laidKinds := [.data, .data, .data, .data, .sentinel, .sentinel, .pinned], laidTests := true, laidLooks := .later }
def EvalDividesUptoCardSaid : Prop := Claim7.holds Tryz.pinned (.plain (OpenSpec.upto evalDividesSpec)) evalDividesUptoCard
end Rows
end Go.Proofs.YthfgpkdbclogpaaGreatDoor
