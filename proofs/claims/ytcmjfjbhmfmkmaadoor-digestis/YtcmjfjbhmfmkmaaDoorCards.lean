/-
  DERIVED. GIVEN WITH THE SEED: THE CARDS: each row of YtcmjfjbhmfmkmaaDoorRows.lean that lists a variable, with what it lists TIED to the program's text (the seventh form; the later family's looks); each row that meets fmt, with fmt's text TOLD by the authors' own Lean function (tested against real Go, not proved from fmt's source: count such statements apart). THE CARD IS WHAT COUNTS. Prove the row's statement (the work); the ties are given (YtcmjfjbhmfmkmaaDoorTie.lean); close each card by the builder's one call (the guide's Derived/Test/ToyasCard.lean, 'card_holds'). Laid BY PROGRAM, IN A SANDBOX (cutbox-door.mjs). By AI agents, Wed Nov 11 2026. No macro, syntax, notation, axiom, sorry.
-/
import Derived.Test.YtcmjfjbhmfmkmaaDoorRows
import GoSem.ClaimSeven
namespace Go.Proofs.YtcmjfjbhmfmkmaaDoor
namespace Rows

/-- THE TIED CARD OF 'foundrylaw.DigestIs'. -/
def digestIsCard : Claim7 := { stood := { row := digestIsRow, standIns := [], harness := (true, "cb564f9e66a21717abeae4977b35f0375a81ae7dfb78f6f98128e832bef71eb4"), looks := false }, kinds := [], alts := [], laidByText := true, laidKinds := [.data, .data], laidTests := true, laidLooks := .later }
def DigestIsCardSaid : Prop := Claim7.holds Tryd.pinned (.plain (OpenSpec.ofChange digestIsSpec)) digestIsCard

/-- THE SECOND FORM's CARD OF 'foundrylaw.DigestIs'. -/
def digestIsUptoCard : Claim7 := { stood := { row := digestIsUptoRow, standIns := [], harness := (true, "cb564f9e66a21717abeae4977b35f0375a81ae7dfb78f6f98128e832bef71eb4"), looks := false }, kinds := [], alts := [], laidByText := true, laidKinds := [.data, .data], laidTests := true, laidLooks := .later }
def DigestIsUptoCardSaid : Prop := Claim7.holds Tryd.pinned (.plain (OpenSpec.upto digestIsSpec)) digestIsUptoCard
end Rows
end Go.Proofs.YtcmjfjbhmfmkmaaDoor
