/- A book of leases: a new one; the laws of its maps. -/
import Derived.ProofKit
import Derived.Below
import Derived.WalkSmall
import Derived.Lib.SmallJoins
import Derived.Deep.RegionHeld3
import Derived.Deep.AppendLies
import Derived.Deep.QuietTactic
import Derived.BigQuiet
import Derived.BigRegion
import Derived.Maps.OwnSet
import Derived.Maps.RangeWalk
import Derived.Maps.Views
import Derived.Lib.Strings
import Derived.Lib.Walk
import Derived.Lib.UnsafeStr
import Derived.Lib.Hide
import Derived.Laws.MakeOwn
import Derived.WalkKit
import Derived.Shelf.Abstract
import Derived.Test.YtocahjnibdgmoaaChecked
namespace Go.Proofs.Ytocahjnibdgmoaa
open Go.RowKit Go.Shelf Go.Maps

theorem lawS : Keyed Try.prog 9 := string_keyed Try.underlying9
theorem lawI : Keyed Try.prog 3 := int_keyed Try.underlying3
/-- How a pointer to a job reads: by its block. -/
def ptrE (v : Value) : Option (DataW Unit × List MemPlace) := match v with
  | .pointer (some ⟨b, 0, none⟩) => some (.lit (.int .i64 (b : Int)), [])
  | .pointer none => some (.lit (.int .i64 (-1)), [])
  | _ => none
theorem zeroI (w : World) : (zeroValue 3).run Try.prog w = .ok (.int .i64 0) w := by kernel_rfl
theorem zeroP (w : World) : (zeroValue 60).run Try.prog w = .ok (.pointer none) w := by kernel_rfl
theorem ptrE_inv {v : Value} {d : DataW Unit} {ps : List MemPlace} (h : ptrE v = some (d, ps)) : (v = .pointer none ∧ d = .lit (.int .i64 (-1))) ∨ ∃ b : Nat, v = .pointer (some ⟨b, 0, none⟩) ∧ d = .lit (.int .i64 (b : Int)) := by
  unfold ptrE at h
  split at h
  · injection h with h; injection h with h1 h2; exact .inr ⟨_, rfl, h1.symm⟩
  · injection h with h; injection h with h1 h2; exact .inl ⟨rfl, h1.symm⟩
  · cases h

/-- The terms may be. -/
def termsOk (a b c : Int) : Prop := 1 ≤ a ∧ a ≤ 1000000000 ∧ 1 ≤ b ∧ b ≤ 10 ∧ 1 ≤ c ∧ c ≤ 5

set_option maxHeartbeats 2000000 in
set_option maxRecDepth 100000 in
theorem LNew_yes (a b c : Nat) (w : World) (h : termsOk a b c) :
    Calls Try.prog 7 #[.agg #[.int .i64 a, .int .i64 b, .int .i64 c]] w fun e w' => ∃ B M, e = .returned (.tuple #[.pointer (some ⟨B, 0, none⟩), .int .i64 0]) ∧ w'.heap[B]? = some (.cells #[.int .i64 a, .int .i64 b, .int .i64 c, .int .i64 0, .map (some M)] 58 (0, 0)) ∧ w'.ownsMap Try.prog 9 ptrE M 0 (.map []) ∧ Below w.heap.size w w' ∧ w.heap.size ≤ B ∧ w.heap.size ≤ M ∧ B ≠ M := by
  obtain ⟨h1, h2, h3, h4, h5, h6⟩ := h
  have hmm := @run_makeMap Try.prog
  have k1 : ¬ (a : Int) < 1 := by omega
  have k2 : ¬ 1000000000 < (a : Int) := by omega
  have k3 : ¬ (b : Int) < 1 := by omega
  have k4 : ¬ 10 < (b : Int) := by omega
  have k5 : ¬ (c : Int) < 1 := by omega
  have k6 : ¬ 5 < (c : Int) := by omega
  clear h1 h2 h3 h4 h5 h6
  go_enter Try.func7, Try.ntmps7
  go_wp2
  refine bodyPost_ret (v := .tuple #[.pointer (some ⟨w.heap.size + 1 + 1, 0, none⟩), .int .i64 0]) (by simp [results, Try.results7, go_sem]) rfl ?_
  have z1 : (w.alloc (.cells #[.int .i64 (a : Int), .int .i64 (b : Int), .int .i64 (c : Int)] 23)).heap.size = w.heap.size + 1 := World.size_alloc _ _
  have z2 : ((w.alloc (.cells #[.int .i64 (a : Int), .int .i64 (b : Int), .int .i64 (c : Int)] 23)).alloc (.map #[] 0)).heap.size = w.heap.size + 1 + 1 := by rw [World.size_alloc, z1]
  have hm := World.ownsMap_made (H := Unit) (w.alloc (.cells #[.int .i64 (a : Int), .int .i64 (b : Int), .int .i64 (c : Int)] 23)) Try.prog 9 ptrE
  rw [z1] at hm
  refine ⟨_, rfl, w.heap.size + 1, ?_, hm.alloc _, (((Below.refl _ w).alloc (Nat.le_refl _) _).alloc (by omega) _).alloc (by omega) _, by omega, by omega, by omega⟩
  have := heap_alloc_new ((w.alloc (.cells #[.int .i64 (a : Int), .int .i64 (b : Int), .int .i64 (c : Int)] 23)).alloc (.map #[] 0)) (.cells #[.int .i64 (a : Int), .int .i64 (b : Int), .int .i64 (c : Int), .int .i64 0, .map (some (w.heap.size + 1))] 58)
  rw [z2] at this
  exact this
end Go.Proofs.Ytocahjnibdgmoaa
