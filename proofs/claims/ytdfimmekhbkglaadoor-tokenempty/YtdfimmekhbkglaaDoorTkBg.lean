/- What must be in any case. -/
import Derived.Test.YtdfimmekhbkglaaDoorTkW
namespace Go.Proofs.YtdfimmekhbkglaaDoor
open Go.RowKit Go.Shelf

theorem begun_eq : splitA [97, 32, 61, 32, 49] = .ok [⟨1, [97], 0, 0⟩, ⟨4, [61], 0, 2⟩, ⟨2, [49], 1, 4⟩, ⟨6, [], 0, 5⟩] := by kernel_rfl

set_option maxHeartbeats 4000000 in
set_option maxRecDepth 100000 in
theorem begun_any (w : World) (hr : ErrR w) :
    Calls Tryd.prog 6 #[] w fun e w' => e = .returned (.bool true) ∧ Below w.heap.size w w' := by
  have HSp : Hid (∀ W, Below w.heap.size w W → Calls Tryd.prog 7 #[.string ⟨#[97, 32, 61, 32, 49]⟩] W fun e w' => ∃ tv, e = .returned (.tuple #[tv, .agg #[.int .i64 0, .int .i64 0]]) ∧ w'.ownsRow W.heap.size 30 4 tv 4 (tcs [⟨1, [97], 0, 0⟩, ⟨4, [61], 0, 2⟩, ⟨2, [49], 1, 4⟩, ⟨6, [], 0, 5⟩]) ∧ Below w.heap.size w w') := fun W hW => (Split_any [97, 32, 61, 32, 49] W (hr.up hW)).mono fun e w' ⟨_, h2, h3⟩ => by
    obtain ⟨tv, a, b⟩ := h2 _ begun_eq
    exact ⟨tv, a, b, hW.trans (h3.mono hW.size)⟩
  clear hr
  go_enter Tryd.func6, Tryd.ntmps6
  go_wp2_with fail
  refine (HSp.out w (Below.refl _ w)).mono ?_
  rintro e w1 ⟨tv, rfl, ho, hb⟩
  obtain ⟨g, cap, rfl, hg1, hg2⟩ := ho.form (by decide)
  have k10 : w1.cell? ⟨g, 10, none⟩ = some (.int .i64 1) := (ho.cellAt 10 (by decide)).trans rfl
  have HB : Hid (Below w.heap.size w w1 ∧ g < w1.heap.size) := ⟨hb, hg2⟩
  have hgn : ¬ g = w1.heap.size := by omega
  have k10' : ∀ o : Obj, (w1.alloc o).cell? ⟨g, 10, none⟩ = some (.int .i64 1) := fun o => (World.cell?_alloc_past _ _ _ hg2).trans k10
  clear hb ho
  go_wp2
  go_ret
  exact ⟨rfl, HB.out.1.alloc (by have := HB.out.1.size; omega) _⟩
end Go.Proofs.YtdfimmekhbkglaaDoor
