/- The document's own Sum, in parts: its loops, taken out of its text; what lies where. -/
import Derived.Test.YtnjpkmkpjjcheaaDoorRefK
import Derived.BigQuiet
import Derived.Deep.AppendLies
namespace Go.Proofs.YtnjpkmkpjjcheaaDoor
open Go.RowKit

/-- A part of a text, by the way that leads to it. -/
def sub : List Bool → Code → Code
  | [], c => c
  | false :: p, .seq a _ => sub p a
  | true :: p, .seq _ b => sub p b
  | _ :: p, .block _ c => sub p c
  | _ :: p, .loop c => sub p c
  | false :: p, .cond _ a _ => sub p a
  | true :: p, .cond _ _ b => sub p b
  | _ :: _, c => c
noncomputable def sumBody : Code := Tryd.f24.body.getD .skip
end Go.Proofs.YtnjpkmkpjjcheaaDoor
