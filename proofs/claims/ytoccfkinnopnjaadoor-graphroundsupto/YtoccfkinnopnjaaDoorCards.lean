/-
  DERIVED. GIVEN WITH THE SEED: THE CARDS: each row of YtoccfkinnopnjaaDoorRows.lean that lists a variable, with what it lists TIED to the program's text (the seventh form; the later family's looks); each row that meets fmt, with fmt's text TOLD by the authors' own Lean function (tested against real Go, not proved from fmt's source: count such statements apart). THE CARD IS WHAT COUNTS. Prove the row's statement (the work); the ties are given (YtoccfkinnopnjaaDoorTie.lean); close each card by the builder's one call (the guide's Derived/Test/ToyasCard.lean, 'card_holds'). Laid BY PROGRAM, IN A SANDBOX (cutbox-door.mjs). By AI agents, Wed Nov 11 2026. No macro, syntax, notation, axiom, sorry.
-/
import Derived.Test.YtoccfkinnopnjaaDoorRows
import GoSem.ClaimSeven
namespace Go.Proofs.YtoccfkinnopnjaaDoor
namespace Rows

/-- THE TIED CARD OF 'foundrylaw.GraphRounds'. -/
def graphRoundsCard : Claim7 := { stood := { row := graphRoundsRow, standIns := [], harness := (true, "b5c3ebf4087b4f5288a3ae4726212d2ba642707e421c3bffa9364bb76003acbd"), looks := true }, kinds := [], alts := [], laidByText := true, laidKinds := [.data, .pinned], laidTests := true, laidLooks := .later }
def GraphRoundsCardSaid : Prop := Claim7.holds Tryd.pinned (.plain (OpenSpec.ofChange graphRoundsSpec)) graphRoundsCard

/-- THE SECOND FORM's CARD OF 'foundrylaw.GraphRounds'. -/
def graphRoundsUptoCard : Claim7 := { stood := { row := graphRoundsUptoRow, standIns := [], harness := (true, "b5c3ebf4087b4f5288a3ae4726212d2ba642707e421c3bffa9364bb76003acbd"), looks := true }, kinds := [], alts := [], laidByText := true, laidKinds := [.data, .pinned], laidTests := true, laidLooks := .later }
def GraphRoundsUptoCardSaid : Prop := Claim7.holds Tryd.pinned (.plain (OpenSpec.upto graphRoundsSpec)) graphRoundsUptoCard
end Rows
end Go.Proofs.YtoccfkinnopnjaaDoor
