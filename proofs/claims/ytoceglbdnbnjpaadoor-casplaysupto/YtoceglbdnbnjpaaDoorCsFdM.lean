/- A store: what is known of a text. -/
import Derived.Test.YtoceglbdnbnjpaaDoorTq6
namespace Go.Proofs.YtoceglbdnbnjpaaDoor
open Go.RowKit Go.Shelf Go.Maps Go.WideMaps

set_option maxHeartbeats 2000000 in
set_option maxRecDepth 100000 in
theorem Find_no {P : Nat} {w : World} (d : ByteArray) (h : ∀ W : World, Below w.heap.size w W → Calls Tryd.prog 42 #[kp P, .string d] W fun r w' => r = .returned (.tuple #[.pointer none, .int .i64 5]) ∧ w' = W) :
    Calls Tryd.prog 21 #[kp P, .string d] w fun r w' => r = .returned (.tuple #[.agg #[.bool false, .int .i64 0, .int .i64 0], .int .i64 0]) ∧ Below w.heap.size w w' := by
  have hA : Below w.heap.size w (w.alloc (.cells #[.bool false, .int .i64 0, .int .i64 0] 47)) := (Below.refl _ w).alloc (Nat.le_refl _) _
  have HL : Hid (Calls Tryd.prog 42 #[kp P, .string d] (w.alloc (.cells #[.bool false, .int .i64 0, .int .i64 0] 47)) fun r w' => r = .returned (.tuple #[.pointer none, .int .i64 5]) ∧ w' = w.alloc (.cells #[.bool false, .int .i64 0, .int .i64 0] 47)) := h _ hA
  clear h hA
  go_enter Tryd.func21, Tryd.ntmps21
  go_wp2_with (first
    | (go_at_call 42; refine HL.out.mono ?_; rintro r w1 ⟨rfl, rfl⟩)
    | go_in)
  have hn := heap_alloc_new w (.cells #[.bool false, .int .i64 0, .int .i64 0] 47)
  have q0 : (w.alloc (.cells #[.bool false, .int .i64 0, .int .i64 0] 47)).cell? ⟨w.heap.size, 0, none⟩ = some (.bool false) := by rw [Lib.cell_of_heap hn]; rfl
  have q1 : (w.alloc (.cells #[.bool false, .int .i64 0, .int .i64 0] 47)).cell? ⟨w.heap.size, 1, none⟩ = some (.int .i64 0) := by rw [Lib.cell_of_heap hn]; rfl
  have q2 : (w.alloc (.cells #[.bool false, .int .i64 0, .int .i64 0] 47)).cell? ⟨w.heap.size, 2, none⟩ = some (.int .i64 0) := by rw [Lib.cell_of_heap hn]; rfl
  refine bodyPost_ret (v := .tuple #[.agg #[.bool false, .int .i64 0, .int .i64 0], .int .i64 0]) (by simp [results, Tryd.results21, go_sem, q0, q1, q2]) rfl ?_
  exact ⟨rfl, (Below.refl _ w).alloc (Nat.le_refl _) _⟩

set_option maxHeartbeats 2000000 in
set_option maxRecDepth 100000 in
theorem Find_yes {B P M rm tn : Nat} {E : List Ent} {e : Ent} {I : List Nat} {w : World} (h : CS B P M rm tn E I w) (he : e ∈ E) (hd : digOk e.dg = true) :
    Calls Tryd.prog 21 #[kp P, .string e.dg] w fun r w' => r = .returned (.tuple #[.agg #[.bool true, .int .i64 (e.tx.size : Int), .int .i64 (e.pins : Int)], .int .i64 0]) ∧ Below w.heap.size w w' := by
  have hA : Below w.heap.size w (w.alloc (.cells #[.bool false, .int .i64 0, .int .i64 0] 47)) := (Below.refl _ w).alloc (Nat.le_refl _) _
  have hc := h.up hA
  have HL : Hid (Calls Tryd.prog 42 #[kp P, .string e.dg] (w.alloc (.cells #[.bool false, .int .i64 0, .int .i64 0] 47)) fun r w' => r = .returned (.tuple #[kp e.blk, .int .i64 0]) ∧ w' = w.alloc (.cells #[.bool false, .int .i64 0, .int .i64 0] 47)) := look_yes hc he hd
  obtain ⟨v, L, h1, _⟩ := hc
  obtain ⟨p, hp, _⟩ := h1.ln.ent e he
  have c1 : (w.alloc (.cells #[.bool false, .int .i64 0, .int .i64 0] 47)).cell? ⟨e.blk, 1, none⟩ = some (.string e.tx) := by rw [Lib.cell_of_heap hp]; rfl
  have c2 : (w.alloc (.cells #[.bool false, .int .i64 0, .int .i64 0] 47)).cell? ⟨e.blk, 2, none⟩ = some (.int .i64 (e.pins : Int)) := by rw [Lib.cell_of_heap hp]; rfl
  clear h1 hp h hA hd he
  generalize e.dg = d at *
  generalize e.tx = tx at *
  generalize e.blk = b at *
  generalize (e.pins : Int) = q at *
  go_enter Tryd.func21, Tryd.ntmps21
  go_wp2_with (first
    | (go_at_call 42; refine HL.out.mono ?_; rintro r w1 ⟨rfl, rfl⟩)
    | go_in)
  go_region
  all_goals
    go_wp2
    have hn := heap_alloc_new w (.cells #[.bool true, .int .i64 (tx.size : Int), .int .i64 q] 47)
    have q0 : (w.alloc (.cells #[.bool true, .int .i64 (tx.size : Int), .int .i64 q] 47)).cell? ⟨w.heap.size, 0, none⟩ = some (.bool true) := by rw [Lib.cell_of_heap hn]; rfl
    have q1 : (w.alloc (.cells #[.bool true, .int .i64 (tx.size : Int), .int .i64 q] 47)).cell? ⟨w.heap.size, 1, none⟩ = some (.int .i64 (tx.size : Int)) := by rw [Lib.cell_of_heap hn]; rfl
    have q2 : (w.alloc (.cells #[.bool true, .int .i64 (tx.size : Int), .int .i64 q] 47)).cell? ⟨w.heap.size, 2, none⟩ = some (.int .i64 q) := by rw [Lib.cell_of_heap hn]; rfl
    refine bodyPost_ret (v := .tuple #[.agg #[.bool true, .int .i64 (tx.size : Int), .int .i64 q], .int .i64 0]) (by simp [results, Tryd.results21, go_sem, q0, q1, q2]) rfl ?_
    exact ⟨rfl, ((Below.refl _ w).alloc (Nat.le_refl _) _).drew⟩
end Go.Proofs.YtoceglbdnbnjpaaDoor
