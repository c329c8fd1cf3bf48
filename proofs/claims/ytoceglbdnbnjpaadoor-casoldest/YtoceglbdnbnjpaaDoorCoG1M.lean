/- No two sums of texts of one byte, so many times, are the same: sizes from 1 on. -/
import Derived.Test.YtoceglbdnbnjpaaDoorCoFM
namespace Go.Proofs.YtoceglbdnbnjpaaDoor

theorem chk_all1 : ((List.range' 1 15).all fun s => chkN s 30 0 []) = true := by kernel_rfl
end Go.Proofs.YtoceglbdnbnjpaaDoor
