/- The document's own Sum, in parts: its loops, taken out of its text; what lies where. -/
import Derived.Test.YtagelkaenbdlaaaDoorRefK
import Derived.BigQuiet
import Derived.Deep.AppendLies
namespace Go.Proofs.YtagelkaenbdlaaaDoor
open Go.RowKit

/-- A part of a text, by the way that leads to it. -/
def sub : List Bool → Code → Code
  | [], c => c
  | false :: p, .seq a _ => sub p a
  | true :: p, .seq _ b => sub p b
  | _ :: p, .block _ c => sub p c
  | _ :: p, .loop c => sub p c
  | false :: p, .cond _ a _ => sub p a
  | true :: p, .cond _ _ b => sub p b
  | _ :: _, c => c
end Go.Proofs.YtagelkaenbdlaaaDoor
