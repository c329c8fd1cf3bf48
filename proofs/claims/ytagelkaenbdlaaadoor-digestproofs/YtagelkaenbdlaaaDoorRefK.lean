/- The document's own Firsts and Constants: the numbers that the digest's variables are laid with. -/
import Derived.Test.YtagelkaenbdlaaaDoorShaP
namespace Go.Proofs.YtagelkaenbdlaaaDoor
open Go.RowKit

def sqN : List Nat := sqL.map Int.toNat
def cuN : List Nat := cuL.map Int.toNat
theorem sqN_i : toI sqN = sqL := by kernel_rfl
theorem cuN_i : toI cuN = cuL := by kernel_rfl
def q0 : N8 := ⟨sqN.getD 0 0, sqN.getD 1 0, sqN.getD 2 0, sqN.getD 3 0, sqN.getD 4 0, sqN.getD 5 0, sqN.getD 6 0, sqN.getD 7 0⟩
theorem q0_i : q0.i = sq8 := by kernel_rfl
theorem q0_ok : q0.ok := by
  have h : (decide (q0.a < 2 ^ 32) && decide (q0.b < 2 ^ 32) && decide (q0.c < 2 ^ 32) && decide (q0.d < 2 ^ 32) && decide (q0.e < 2 ^ 32) && decide (q0.f < 2 ^ 32) && decide (q0.g < 2 ^ 32) && decide (q0.h < 2 ^ 32)) = true := by kernel_rfl
  simp only [Bool.and_eq_true, decide_eq_true_eq] at h
  exact ⟨h.1.1.1.1.1.1.1, h.1.1.1.1.1.1.2, h.1.1.1.1.1.2, h.1.1.1.1.2, h.1.1.1.2, h.1.1.2, h.1.2, h.2⟩
theorem sum_plain (s : ByteArray) : sumB s sq8 cuL = ⟨(digsN (stF (padL s) cuN 0 q0 ((padL s).length / 64))).toArray⟩ := by
  rw [← q0_i, ← cuN_i]
  exact sumB_nat s cuN q0 q0_ok
/-- These numbers, as cells. -/
def intCells (l : List Nat) : Array Value := (l.map fun (n : Nat) => Value.int .i64 (n : Int)).toArray

set_option maxHeartbeats 2000000 in
set_option maxRecDepth 100000 in
theorem Firsts_any (w : World) :
    Calls Tryd.prog 35 #[] w fun e w' => e = .returned (.slice (some ⟨w.heap.size, 0, none⟩) 8 8) ∧ w' = w.alloc (.cells (intCells sqN) 3) := by
  have HC : Hid (intCells sqN = #[.int .i64 1779033703, .int .i64 3144134277, .int .i64 1013904242, .int .i64 2773480762, .int .i64 1359893119, .int .i64 2600822924, .int .i64 528734635, .int .i64 1541459225]) := by show _ = _; kernel_rfl
  rw [HC.out]
  go_enter Tryd.func35, Tryd.ntmps35
  go_wp2
  go_ret
  exact ⟨rfl, rfl⟩

set_option maxHeartbeats 4000000 in
set_option maxRecDepth 100000 in
theorem Constants_any (w : World) :
    Calls Tryd.prog 34 #[] w fun e w' => e = .returned (.slice (some ⟨w.heap.size, 0, none⟩) 64 64) ∧ w' = w.alloc (.cells (intCells cuN) 3) := by
  obtain ⟨C, hC⟩ : ∃ C, C = intCells cuN := ⟨_, rfl⟩
  rw [← hC]
  have HC : Hid (C = intCells cuN) := hC
  clear hC
  go_enter Tryd.func34, Tryd.ntmps34
  go_wp2
  go_ret
  refine ⟨rfl, ?_⟩
  rw [HC.out]
  exact congrArg (fun c => w.alloc (.cells c 3)) (by kernel_rfl)
end Go.Proofs.YtagelkaenbdlaaaDoor
