/-
  DERIVED. GIVEN WITH THE SEED: THE CARDS: each row of YtankaiopdbcndaaGreatDoorRows.lean that lists a variable, with what it lists TIED to the program's text (the seventh form; the later family's looks); each row that meets fmt, with fmt's text TOLD by the authors' own Lean function (tested against real Go, not proved from fmt's source: count such statements apart). THE CARD IS WHAT COUNTS. Prove the row's statement (the work); the ties are given (YtankaiopdbcndaaGreatDoorTie.lean); close each card by the builder's one call (the guide's Derived/Test/ToyasCard.lean, 'card_holds'). Laid BY PROGRAM, IN A SANDBOX (cutbox-door.mjs). By AI agents, Wed Nov 11 2026. No macro, syntax, notation, axiom, sorry.
-/
import Derived.Test.YtankaiopdbcndaaGreatDoorRows
import GoSem.ClaimSeven
namespace Go.Proofs.YtankaiopdbcndaaGreatDoor
namespace Rows

/-- THE TIED CARD OF 'foundrylaw.GraphOrders'. -/
def graphOrdersCard : Claim7 := { stood := { row := graphOrdersRow, standIns := [], harness := (true, "2f5db8b9bedd0d5f6748e343f5a66ba32e590991e6f281f02c5941d2edd3a3c9"), looks := true }, kinds := [], alts := [], laidByText := true, laidKinds := [.data, .pinned], laidTests := true, laidLooks := .later }
def GraphOrdersCardSaid : Prop := Claim7.holds Tryz.pinned (.plain (OpenSpec.ofChange graphOrdersSpec)) graphOrdersCard

/-- THE TIED CARD OF 'foundrylaw.GraphCircles'. -/
def graphCirclesCard : Claim7 := { stood := { row := graphCirclesRow, standIns := [], harness := (true, "2f5db8b9bedd0d5f6748e343f5a66ba32e590991e6f281f02c5941d2edd3a3c9"), looks := true }, kinds := [], alts := [], laidByText := true, laidKinds := [.data, .pinned], laidTests := true, laidLooks := .later }
def GraphCirclesCardSaid : Prop := Claim7.holds Tryz.pinned (.plain (OpenSpec.ofChange graphCirclesSpec)) graphCirclesCard

/-- THE TIED CARD OF 'foundrylaw.GraphCones'. -/
def graphConesCard : Claim7 := { stood := { row := graphConesRow, standIns := [], harness := (true, "2f5db8b9bedd0d5f6748e343f5a66ba32e590991e6f281f02c5941d2edd3a3c9"), looks := true }, kinds := [], alts := [], laidByText := true, laidKinds := [.data, .pinned], laidTests := true, laidLooks := .later }
def GraphConesCardSaid : Prop := Claim7.holds Tryz.pinned (.plain (OpenSpec.ofChange graphConesSpec)) graphConesCard

/-- THE TIED CARD OF 'foundrylaw.GraphUsers'. -/
def graphUsersCard : Claim7 := { stood := { row := graphUsersRow, standIns := [], harness := (true, "2f5db8b9bedd0d5f6748e343f5a66ba32e590991e6f281f02c5941d2edd3a3c9"), looks := true }, kinds := [], alts := [], laidByText := true, laidKinds := [.data, .pinned], laidTests := true, laidLooks := .later }
def GraphUsersCardSaid : Prop := Claim7.holds Tryz.pinned (.plain (OpenSpec.ofChange graphUsersSpec)) graphUsersCard

/-- THE TIED CARD OF 'foundrylaw.GraphDepths'. -/
def graphDepthsCard : Claim7 := { stood := { row := graphDepthsRow, standIns := [], harness := (true, "2f5db8b9bedd0d5f6748e343f5a66ba32e590991e6f281f02c5941d2edd3a3c9"), looks := true }, kinds := [], alts := [], laidByText := true, laidKinds := [.data, .pinned], laidTests := true, laidLooks := .later }
def GraphDepthsCardSaid : Prop := Claim7.holds Tryz.pinned (.plain (OpenSpec.ofChange graphDepthsSpec)) graphDepthsCard

/-- THE TIED CARD OF 'foundrylaw.GraphChecks'. -/
def graphChecksCard : Claim7 := { stood := { row := graphChecksRow, standIns := [], harness := (true, "2f5db8b9bedd0d5f6748e343f5a66ba32e590991e6f281f02c5941d2edd3a3c9"), looks := true }, kinds := [], alts := [], laidByText := true, laidKinds := [.data, .pinned], laidTests := true, laidLooks := .later }
def GraphChecksCardSaid : Prop := Claim7.holds Tryz.pinned (.plain (OpenSpec.ofChange graphChecksSpec)) graphChecksCard

/-- THE SECOND FORM's CARD OF 'foundrylaw.GraphOrders'. -/
def graphOrdersUptoCard : Claim7 := { stood := { row := graphOrdersUptoRow, standIns := [], harness := (true, "2f5db8b9bedd0d5f6748e343f5a66ba32e590991e6f281f02c5941d2edd3a3c9"), looks := true }, kinds := [], alts := [], laidByText := true, laidKinds := [.data, .pinned], laidTests := true, laidLooks := .later }
def GraphOrdersUptoCardSaid : Prop := Claim7.holds Tryz.pinned (.plain (OpenSpec.upto graphOrdersSpec)) graphOrdersUptoCard

/-- THE SECOND FORM's CARD OF 'foundrylaw.GraphCircles'. -/
def graphCirclesUptoCard : Claim7 := { stood := { row := graphCirclesUptoRow, standIns := [], harness := (true, "2f5db8b9bedd0d5f6748e343f5a66ba32e590991e6f281f02c5941d2edd3a3c9"), looks := true }, kinds := [], alts := [], laidByText := true, laidKinds := [.data, .pinned], laidTests := true, laidLooks := .later }
def GraphCirclesUptoCardSaid : Prop := Claim7.holds Tryz.pinned (.plain (OpenSpec.upto graphCirclesSpec)) graphCirclesUptoCard

/-- THE SECOND FORM's CARD OF 'foundrylaw.GraphCones'. -/
def graphConesUptoCard : Claim7 := { stood := { row := graphConesUptoRow, standIns := [], harness := (true, "2f5db8b9bedd0d5f6748e343f5a66ba32e590991e6f281f02c5941d2edd3a3c9"), looks := true }, kinds := [], alts := [], laidByText := true, laidKinds := [.data, .pinned], laidTests := true, laidLooks := .later }
def GraphConesUptoCardSaid : Prop := Claim7.holds Tryz.pinned (.plain (OpenSpec.upto graphConesSpec)) graphConesUptoCard

/-- THE SECOND FORM's CARD OF 'foundrylaw.GraphUsers'. -/
def graphUsersUptoCard : Claim7 := { stood := { row := graphUsersUptoRow, standIns := [], harness := (true, "2f5db8b9bedd0d5f6748e343f5a66ba32e590991e6f281f02c5941d2edd3a3c9"), looks := true }, kinds := [], alts := [], laidByText := true, laidKinds := [.data, .pinned], laidTests := true, laidLooks := .later }
def GraphUsersUptoCardSaid : Prop := Claim7.holds Tryz.pinned (.plain (OpenSpec.upto graphUsersSpec)) graphUsersUptoCard

/-- THE SECOND FORM's CARD OF 'foundrylaw.GraphDepths'. -/
def graphDepthsUptoCard : Claim7 := { stood := { row := graphDepthsUptoRow, standIns := [], harness := (true, "2f5db8b9bedd0d5f6748e343f5a66ba32e590991e6f281f02c5941d2edd3a3c9"), looks := true }, kinds := [], alts := [], laidByText := true, laidKinds := [.data, .pinned], laidTests := true, laidLooks := .later }
def GraphDepthsUptoCardSaid : Prop := Claim7.holds Tryz.pinned (.plain (OpenSpec.upto graphDepthsSpec)) graphDepthsUptoCard

/-- THE SECOND FORM's CARD OF 'foundrylaw.GraphChecks'. -/
def graphChecksUptoCard : Claim7 := { stood := { row := graphChecksUptoRow, standIns := [], harness := (true, "2f5db8b9bedd0d5f6748e343f5a66ba32e590991e6f281f02c5941d2edd3a3c9"), looks := true }, kinds := [], alts := [], laidByText := true, laidKinds := [.data, .pinned], laidTests := true, laidLooks := .later }
def GraphChecksUptoCardSaid : Prop := Claim7.holds Tryz.pinned (.plain (OpenSpec.upto graphChecksSpec)) graphChecksUptoCard
end Rows
end Go.Proofs.YtankaiopdbcndaaGreatDoor
