/- An element of an array of eight numbers. -/
import Derived.Test.YtagelkaenbdlaaaDoorSha
namespace Go.Proofs.YtagelkaenbdlaaaDoor
open Go.RowKit

theorem ix8 (b0 b1 b2 b3 b4 b5 b6 b7 : Int) (j : Nat) (hj : j < 8) (v : Value) (hv : ([.int .u32 b0, .int .u32 b1, .int .u32 b2, .int .u32 b3, .int .u32 b4, .int .u32 b5, .int .u32 b6, .int .u32 b7] : List Value)[j]? = some v) (W : World) : (Instr.index 50 (.agg #[.int .u32 b0, .int .u32 b1, .int .u32 b2, .int .u32 b3, .int .u32 b4, .int .u32 b5, .int .u32 b6, .int .u32 b7]) (.int .i64 j)).run Tryd.prog W = .ok v W := by
  have h1 : (j : Int) < 8 := by omega
  have h2 : (0 : Int) ≤ (j : Int) := by omega
  simp only [Instr.index, asIntOf, Sem.run_bind, Sem.run_pure, Result.andThen_ok, run_underlying Tryd.underlying50]
  rw [if_pos ⟨h2, h1⟩]
  simp [part, Tryd.isAgg49, Tryd.sizeOf49, hv]
end Go.Proofs.YtagelkaenbdlaaaDoor
