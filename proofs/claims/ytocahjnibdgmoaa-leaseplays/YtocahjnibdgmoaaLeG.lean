/- A book of leases: a job is lent for the first time; its state. -/
import Derived.Test.YtocahjnibdgmoaaLeF
namespace Go.Proofs.Ytocahjnibdgmoaa
open Go.RowKit Go.Shelf Go.Maps Go.WideMaps

theorem ownsMap_heap {H : Type} {w w' : World} {P : Program} {k : TypeId} {R : Value → Option (DataW H × List MemPlace)} {b n : Nat} {D : DataW H} (h : w.ownsMap P k R b n D) (hh : w'.heap[b]? = w.heap[b]?) : w'.ownsMap P k R b n D := by
  obtain ⟨es, clock, hb, rest⟩ := h
  exact ⟨es, clock, hh.trans hb, rest⟩

set_option maxHeartbeats 2000000 in
set_option maxRecDepth 100000 in
theorem llend_new {J : Nat} {w : World} {dn : Bool} {tr : Nat} (hj : w.heap[J]? = some (.cells #[.bool dn, .int .i64 (tr : Int), .map none] 63 (0, 0))) (k t : Int) (hk : (Lit.int .i64 k).wf = true) (ht : (Lit.int .i64 t).wf = true) :
    Calls Try.prog 33 #[.pointer (some ⟨J, 0, none⟩), .int .i64 k, .int .i64 t] w fun e w' => e = .returned (.tuple #[]) ∧ w'.heap[J]? = some (.cells #[.bool dn, .int .i64 (tr : Int), .map (some w.heap.size)] 63 (0, 0)) ∧ w'.ownsMap Try.prog 3 (plainElem (H := Unit) Try.prog 3) w.heap.size 1 ((DataW.map []).put (.int .i64 k) (.lit (.int .i64 t))) ∧ w.grownBy w' (some J) := by
  have hJl : J < w.heap.size := (Array.getElem?_eq_some_iff.1 hj).1
  have c2 : w.cell? ⟨J, 2, none⟩ = some (.map none) := by rw [Lib.cell_of_heap hj]; rfl
  have hj1 : (w.alloc (.map #[] 0)).heap[J]? = some (.cells #[.bool dn, .int .i64 (tr : Int), .map none] 63 (0, 0)) := (((Below.refl _ w).alloc (Nat.le_refl _) _).block J hJl).trans hj
  have c3 : (w.alloc (.map #[] 0)).cell? ⟨J, 2, none⟩ = some (.map none) := by rw [Lib.cell_of_heap hj1]; rfl
  have f3 : (w.alloc (.map #[] 0)).frozen? ⟨J, 2, none⟩ = false := Lib.frozen_of_heap hj1 2
  have hj2 : ((w.alloc (.map #[] 0)).setCell ⟨J, 2, none⟩ (.map (some w.heap.size))).heap[J]? = some (.cells #[.bool dn, .int .i64 (tr : Int), .map (some w.heap.size)] 63 (0, 0)) := by rw [Go.Joins.block_setCell hj1]; rfl
  have c4 : ((w.alloc (.map #[] 0)).setCell ⟨J, 2, none⟩ (.map (some w.heap.size))).cell? ⟨J, 2, none⟩ = some (.map (some w.heap.size)) := by rw [Lib.cell_of_heap hj2]; rfl
  have hown : ((w.alloc (.map #[] 0)).setCell ⟨J, 2, none⟩ (.map (some w.heap.size))).ownsMap Try.prog 3 (plainElem (H := Unit) Try.prog 3) w.heap.size 0 (.map []) := ownsMap_heap (World.ownsMap_made w Try.prog 3 _) (Below.heap_setCell _ ⟨J, 2, none⟩ _ _ (by show ¬ w.heap.size = J; omega))
  have hkey := keyOf_int_mk Try.underlying3 hk
  have hm := mapEq2
  have hmm := @run_makeMap Try.prog
  have HH : Hid (((w.alloc (.map #[] 0)).setCell ⟨J, 2, none⟩ (.map (some w.heap.size))).heap[J]? = some (.cells #[.bool dn, .int .i64 (tr : Int), .map (some w.heap.size)] 63 (0, 0)) ∧ J < w.heap.size ∧ w.grownBy ((w.alloc (.map #[] 0)).setCell ⟨J, 2, none⟩ (.map (some w.heap.size))) (some J)) := by
    refine ⟨hj2, hJl, rfl, rfl, rfl, ?_, fun g hg hn => ?_⟩
    · have e : ((w.alloc (.map #[] 0)).setCell ⟨J, 2, none⟩ (.map (some w.heap.size))).heap.size = w.heap.size + 1 := by simp [World.setCell]
      omega
    · exact (Below.heap_setCell _ ⟨J, 2, none⟩ _ g (fun e => hn (by rw [show g = J from e]))).trans (((Below.refl _ w).alloc (Nat.le_refl _) _).block g hg)
  clear hj hj1 hj2 hJl
  go_enter Try.func33, Try.ntmps33
  go_wp2_with (first
    | (at_mapUpdate; refine wpList_mapUpdate_own _ rfl _ _ _ 61 rfl 3 3 lawI Try.underlying61 _ w.heap.size 0 (.map []) rfl hown (by unfold maxLen; omega) _ _ _ rfl rfl hkey _ [] (plainElem_int Try.underlying3 ht) ?_; intro w1 hown1 hgrow1)
    | go_in)
  go_end0
  obtain ⟨a1, a2, a3⟩ := HH.out
  have hz : w.heap.size < ((w.alloc (.map #[] 0)).setCell ⟨J, 2, none⟩ (.map (some w.heap.size))).heap.size := by simp [World.setCell]
  refine ⟨rfl, (hgrow1.block J (by omega) (by simp; omega)).trans a1, hown1, hgrow1.os.trans a3.os, hgrow1.tape.trans a3.tape, hgrow1.output.trans a3.output, by have := a3.size; have := hgrow1.size; omega, fun g hg hn => (hgrow1.block g (by omega) (by simp; omega)).trans (a3.block g hg hn)⟩
end Go.Proofs.Ytocahjnibdgmoaa
