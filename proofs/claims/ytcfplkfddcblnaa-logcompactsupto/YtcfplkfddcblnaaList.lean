/- What wire's readList does where the text begins with a packed list of texts. -/
import Derived.Test.YtcfplkfddcblnaaReader
namespace Go.Proofs.Ytcfplkfddcblnaa
open Go.RowKit Go.Shelf

def pkAll : List (List UInt8) → List UInt8
  | [] => []
  | t :: l => pk t.length ++ (t ++ pkAll l)
def strs (l : List (List UInt8)) : List Value := l.map fun t => .string ⟨t.toArray⟩
theorem infS : (Try.prog.info? 9).map (fun i => (i.zero, i.size, i.bytes)) = some (some (.string ⟨#[]⟩), 1, 16) := by kernel_rfl
end Go.Proofs.Ytcfplkfddcblnaa
