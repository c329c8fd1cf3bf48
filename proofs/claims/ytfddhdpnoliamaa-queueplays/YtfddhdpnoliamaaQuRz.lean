/- The document's ring: Next, where nobody waits. -/
import Derived.Test.YtfddhdpnoliamaaQuTr
namespace Go.Proofs.Ytfddhdpnoliamaa
open Go.RowKit Go.Shelf

set_option maxHeartbeats 4000000 in
set_option maxRecDepth 100000 in
theorem rNext_none {B P : Nat} {tv cv jv : Value} {w : World} {r : Rg} (h : RS B P tv cv jv w r) (hr : r.tens = []) :
    Calls Try.prog 13 #[.pointer (some ⟨P, 0, none⟩)] w fun e w' => e = .returned (.tuple #[.agg #[.int .i64 0, .string ⟨#[]⟩, .int .i64 0], .bool false]) ∧ RS B P tv cv jv w' r ∧ Upd (rids P tv cv jv) (rids P tv cv jv) w w' := by
  have hb0 : Below w.heap.size w (w.alloc (.cells #[.int .i64 0, .string ⟨#[]⟩, .int .i64 0] 34)) := (Below.refl _ w).alloc (Nat.le_refl _) _
  have l0 := heap_alloc_new w (.cells #[.int .i64 0, .string ⟨#[]⟩, .int .i64 0] 34)
  have h1 := h.up hb0
  obtain ⟨ao, cap, htv⟩ := h.tens.shape
  rw [hr] at htv
  have c1 : (w.alloc (.cells #[.int .i64 0, .string ⟨#[]⟩, .int .i64 0] 34)).cell? ⟨P, 1, none⟩ = some (.slice ao 0 cap) := by
    have := h1.c 1 tv rfl
    rw [htv] at this
    exact this
  have hnR : ¬ w.heap.size ∈ rids P tv cv jv := fun e => by have := (h.lt _ e).2; omega
  have x0 : (w.alloc (.cells #[.int .i64 0, .string ⟨#[]⟩, .int .i64 0] 34)).cell? ⟨w.heap.size, 0, none⟩ = some (.int .i64 0) := by rw [Lib.cell_of_heap l0]; rfl
  have x1 : (w.alloc (.cells #[.int .i64 0, .string ⟨#[]⟩, .int .i64 0] 34)).cell? ⟨w.heap.size, 1, none⟩ = some (.string ⟨#[]⟩) := by rw [Lib.cell_of_heap l0]; rfl
  have x2 : (w.alloc (.cells #[.int .i64 0, .string ⟨#[]⟩, .int .i64 0] 34)).cell? ⟨w.heap.size, 2, none⟩ = some (.int .i64 0) := by rw [Lib.cell_of_heap l0]; rfl
  have y0 : (w.alloc (.cells #[.int .i64 0, .string ⟨#[]⟩, .int .i64 0] 34)).frozen? ⟨w.heap.size, 0, none⟩ = false := Lib.frozen_of_heap l0 0
  have y1 : (w.alloc (.cells #[.int .i64 0, .string ⟨#[]⟩, .int .i64 0] 34)).frozen? ⟨w.heap.size, 1, none⟩ = false := Lib.frozen_of_heap l0 1
  have y2 : (w.alloc (.cells #[.int .i64 0, .string ⟨#[]⟩, .int .i64 0] 34)).frozen? ⟨w.heap.size, 2, none⟩ = false := Lib.frozen_of_heap l0 2
  have HEnd : Hid _ := take_end (jx := ⟨0, ⟨#[]⟩, 0⟩) h1 (Upd.of_below (I := rids P tv cv jv) hb0) (Nat.le_refl _) l0 hnR
  clear h h1 hb0 l0 hr htv hnR
  go_enter Try.func13, Try.ntmps13
  go_wp2_with fail
  generalize w.alloc (.cells #[.int .i64 0, .string ⟨#[]⟩, .int .i64 0] 34) = w0 at *
  generalize w.heap.size = R at *
  refine wp_loop_rounds 1 ?_
  rw [rounds_succ]
  go_wp2
  obtain ⟨hE, hG0⟩ := HEnd.out
  have hG : (((w0.setCell ⟨R, 0, none⟩ (.int .i64 0)).setCell ⟨R, 1, none⟩ (.string ⟨#[]⟩)).setCell ⟨R, 2, none⟩ (.int .i64 0)).heap[R]? = some (.cells #[.int .i64 0, .string ⟨#[]⟩, .int .i64 0] 34 (0, 0)) := hG0
  have g0 : (((w0.setCell ⟨R, 0, none⟩ (.int .i64 0)).setCell ⟨R, 1, none⟩ (.string ⟨#[]⟩)).setCell ⟨R, 2, none⟩ (.int .i64 0)).cell? ⟨R, 0, none⟩ = some (.int .i64 0) := by rw [Lib.cell_of_heap hG]; rfl
  have g1 : (((w0.setCell ⟨R, 0, none⟩ (.int .i64 0)).setCell ⟨R, 1, none⟩ (.string ⟨#[]⟩)).setCell ⟨R, 2, none⟩ (.int .i64 0)).cell? ⟨R, 1, none⟩ = some (.string ⟨#[]⟩) := by rw [Lib.cell_of_heap hG]; rfl
  have g2 : (((w0.setCell ⟨R, 0, none⟩ (.int .i64 0)).setCell ⟨R, 1, none⟩ (.string ⟨#[]⟩)).setCell ⟨R, 2, none⟩ (.int .i64 0)).cell? ⟨R, 2, none⟩ = some (.int .i64 0) := by rw [Lib.cell_of_heap hG]; rfl
  refine bodyPost_ret (v := .tuple #[.agg #[.int .i64 0, .string ⟨#[]⟩, .int .i64 0], .bool false]) (by simp [results, Try.results13, go_sem, g0, g1, g2]) rfl ?_
  exact ⟨rfl, hE⟩
end Go.Proofs.Ytfddhdpnoliamaa
