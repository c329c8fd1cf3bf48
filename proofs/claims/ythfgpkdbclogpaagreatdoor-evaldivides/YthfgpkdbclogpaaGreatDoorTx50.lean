/- 50. -/
import Derived.Test.YthfgpkdbclogpaaGreatDoorRows
import Derived.Test.YthfgpkdbclogpaaGreatDoorChecked
import Derived.JoinedOf
set_option maxHeartbeats 40000000
set_option maxRecDepth 100000
namespace Go.Proofs.YthfgpkdbclogpaaGreatDoor
theorem div_closed:joinedFacts Tryz.pinned.checked.prog 3 Tryz.f3 Rows.evalDividesSpec Rows.evalDividesRow=true:=by kernel_rfl
end Go.Proofs.YthfgpkdbclogpaaGreatDoor
