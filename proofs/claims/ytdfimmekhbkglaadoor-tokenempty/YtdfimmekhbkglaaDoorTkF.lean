/- split: what was given up is caught. -/
import Derived.Test.YtdfimmekhbkglaaDoorTkN
namespace Go.Proofs.YtdfimmekhbkglaaDoor
open Go.RowKit Go.Shelf

theorem infF : (Tryd.prog.info? 26).map (fun i => (i.zero, i.size, i.bytes)) = some (some (.agg #[.int .i64 0, .int .i64 0]), 2, 16) := by
  kernel_rfl
theorem ta_nil (xT : TypeId) (w : World) : (Instr.typeAssert .nilIface xT 26 true).run Tryd.prog w = .ok (.tuple #[.agg #[.int .i64 0, .int .i64 0], .bool false]) w := by
  obtain ⟨i0, hi, hz0, hz1, hz2⟩ := info_p infF
  simp [Instr.typeAssert, run_underlying Tryd.underlying26, zeroValue, typeInfo, hi, hz0, go_sem, Result.andThen]
theorem ta_yes (v : Value) (xT : TypeId) (w : World) : (Instr.typeAssert (.iface 26 v) xT 26 true).run Tryd.prog w = .ok (.tuple #[v, .bool true]) w := by
  simp [Instr.typeAssert, run_underlying Tryd.underlying26, go_sem, Result.andThen]

set_option maxHeartbeats 2000000 in
set_option maxRecDepth 100000 in
theorem catch_idle (p q : Addr) (w : World) :
    CallsD Tryd.prog 13 #[.pointer (some p), .pointer (some q)] .returning w fun e u' w' => e = .returned (.tuple #[]) ∧ u' = .returning ∧ Below w.heap.size w w' := by
  refine callsD_of_wpS Tryd.func13 rfl fun c₀ cs hu => ?_
  apply wpS_seq
  apply wpS_region
  simp [wpOpsS, go_sem, recoverD, hu, Tryd.ntmps13, Exit.thenS, ta_nil]
  apply wpS_seq
  apply wpS_region
  simp [wpOpsS, go_sem, Exit.thenS]
  refine wpS_cond (t := false) (by simp [Act.eval, Array.replicate]) ?_
  simp only [Bool.false_eq_true, if_false]
  refine wpS_of_wp (wp_skip ?_)
  have hb : Below w.heap.size w (w.alloc (.cells #[.int .i64 0, .int .i64 0] 26)) := (Below.refl _ w).alloc (Nat.le_refl _) _
  cases c₀
  simp_all [bodyPostS, results, Tryd.results13]

set_option maxHeartbeats 2000000 in
set_option maxRecDepth 100000 in
theorem catch_pan (B lb fb : Nat) (x y0 y1 : Value) (k : Int) (z : Nat) (older : List PanicEntry) (w : World) (h0 : w.cell? ⟨lb, 0, none⟩ = some x) (h1 : w.cell? ⟨fb, 0, none⟩ = some y0) (h2 : w.cell? ⟨fb, 1, none⟩ = some y1)
    (f0 : w.frozen? ⟨lb, 0, none⟩ = false) (f1 : w.frozen? ⟨fb, 0, none⟩ = false) (f2 : w.frozen? ⟨fb, 1, none⟩ = false) (hn : ¬ lb = fb) (hB : B ≤ lb) (hB2 : B ≤ fb) :
    CallsD Tryd.prog 13 #[.pointer (some ⟨lb, 0, none⟩), .pointer (some ⟨fb, 0, none⟩)] (.panicking ({ v := .iface 26 (.agg #[.int .i64 k, .int .i64 z]), recovered := false } :: older)) w fun e u' w' =>
      e = .returned (.tuple #[]) ∧ u' = .panicking ({ v := .iface 26 (.agg #[.int .i64 k, .int .i64 z]), recovered := true } :: older) ∧ w'.cell? ⟨lb, 0, none⟩ = some (.slice none 0 0) ∧ w'.cell? ⟨fb, 0, none⟩ = some (.int .i64 k) ∧ w'.cell? ⟨fb, 1, none⟩ = some (.int .i64 z) ∧ Below B w w' := by
  refine callsD_of_wpS Tryd.func13 rfl fun c₀ cs hu => ?_
  apply wpS_seq
  apply wpS_region
  simp [wpOpsS, go_sem, recoverD, hu, Tryd.ntmps13, Exit.thenS, ta_yes]
  apply wpS_seq
  apply wpS_region
  simp [wpOpsS, go_sem, Exit.thenS]
  refine wpS_cond (t := true) (by simp [Act.eval, Array.replicate]) ?_
  simp only [if_true]
  refine wpS_of_wp ?_
  simp [Array.replicate]
  have hpl : lb < w.heap.size := World.block_lt_of_cell? w ⟨lb, 0, none⟩ h0
  have hql : fb < w.heap.size := World.block_lt_of_cell? w ⟨fb, 0, none⟩ h1
  have hnew := heap_alloc_new w (.cells #[.int .i64 k, .int .i64 (z : Int)] 26)
  have g0 : (w.alloc (.cells #[.int .i64 k, .int .i64 (z : Int)] 26)).cell? ⟨lb, 0, none⟩ = some x := (World.cell?_alloc_past _ _ _ hpl).trans h0
  have g1 : (w.alloc (.cells #[.int .i64 k, .int .i64 (z : Int)] 26)).cell? ⟨fb, 0, none⟩ = some y0 := (World.cell?_alloc_past _ _ _ hql).trans h1
  have g2 : (w.alloc (.cells #[.int .i64 k, .int .i64 (z : Int)] 26)).cell? ⟨fb, 1, none⟩ = some y1 := (World.cell?_alloc_past _ _ _ hql).trans h2
  have e0 : (w.alloc (.cells #[.int .i64 k, .int .i64 (z : Int)] 26)).frozen? ⟨lb, 0, none⟩ = false := (World.frozen?_of_block (heap_al w _ lb hpl)).trans f0
  have e1 : (w.alloc (.cells #[.int .i64 k, .int .i64 (z : Int)] 26)).frozen? ⟨fb, 0, none⟩ = false := (World.frozen?_of_block (heap_al w _ fb hql)).trans f1
  have e2 : (w.alloc (.cells #[.int .i64 k, .int .i64 (z : Int)] 26)).frozen? ⟨fb, 1, none⟩ = false := (World.frozen?_of_block (heap_al w _ fb hql)).trans f2
  have n0 : (w.alloc (.cells #[.int .i64 k, .int .i64 (z : Int)] 26)).cell? ⟨w.heap.size, 0, none⟩ = some (.int .i64 k) := by rw [Lib.cell_of_heap hnew]; rfl
  have n1 : (w.alloc (.cells #[.int .i64 k, .int .i64 (z : Int)] 26)).cell? ⟨w.heap.size, 1, none⟩ = some (.int .i64 (z : Int)) := by rw [Lib.cell_of_heap hnew]; rfl
  have HB : Hid (Below B w (w.alloc (.cells #[.int .i64 k, .int .i64 (z : Int)] 26))) := (Below.refl B w).alloc (by omega) _
  have m1 : ¬ w.heap.size = lb := by omega
  have m2 : ¬ w.heap.size = fb := by omega
  clear h0 h1 h2 f0 f1 f2 hpl hql hnew
  generalize w.alloc (.cells #[.int .i64 k, .int .i64 (z : Int)] 26) = W at *
  generalize w.heap.size = Z at *
  go_region_with fail
  all_goals
    have hb : Below B w (((W.setCell ⟨lb, 0, none⟩ (.slice none 0 0)).setCell ⟨fb, 0, none⟩ (.int .i64 k)).setCell ⟨fb, 1, none⟩ (.int .i64 (z : Int))).drew := (((HB.out.setCell (p := ⟨lb, 0, none⟩) hB _).setCell (p := ⟨fb, 0, none⟩) hB2 _).setCell (p := ⟨fb, 1, none⟩) hB2 _).drew
    cases c₀
    simp [bodyPostS, results, Tryd.results13, go_sem, g0, g1, g2, hb]
end Go.Proofs.YtdfimmekhbkglaaDoor
