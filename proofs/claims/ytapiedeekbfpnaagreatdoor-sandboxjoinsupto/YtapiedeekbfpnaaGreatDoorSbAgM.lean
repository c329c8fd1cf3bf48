/- The document's AddFile where there was none; of whatever files that came in. -/
import Derived.Test.YtapiedeekbfpnaaGreatDoorSbAfM
import Derived.Test.YtapiedeekbfpnaaGreatDoorTa7
namespace Go.Proofs.YtapiedeekbfpnaaGreatDoor
open Go.ChangeShapes Go.WideShapes Go.ChangeAt Go.RowKit Go.Shelf Go.Maps Go.WideMaps Go.Sort
attribute [local go_sem ↓] appS_eq

theorem appE (g n c c2 : Nat) (A : Option Addr) (hc : n ≤ c) (W : World) : (appS #[22, 22] 22 #[.slice (some ⟨g, 0, none⟩) n c, .slice A 0 c2]).run Tryz.prog W = .ok (.slice (some ⟨g, 0, none⟩) n c) W := by
  obtain ⟨i0, hi, hz0, hz1, hz2⟩ := info_p infF
  show (Builtin.append_ #[22, 22] 22 #[.slice (some ⟨g, 0, none⟩) n c, .slice A 0 c2]).run Tryz.prog W = _
  cases A <;> simp [Builtin.append_, run_underlying Tryz.underlying22, sizeOf, typeInfo, hi, Builtin.lenOf, Builtin.firstCells, hc, storeCells, loadCells, loadCellsFrom]

theorem appO (ao : Option Addr) (f : Fl) (Y : World) (gX B : Nat) (hB : B ≤ gX) (hY : Y.heap[gX]? = some (.cells #[.string f.pa, .string f.tx, .bool f.rn] 35 (0, 0))) : ∃ g2 c2 w2, (appS #[22, 22] 22 #[.slice ao 0 0, .slice (some ⟨gX, 0, none⟩) 1 1]).run Tryz.prog Y = .ok (.slice (some ⟨g2, 0, none⟩) 1 c2) w2 ∧
    w2.ownsRow B 35 3 (.slice (some ⟨g2, 0, none⟩) 1 c2) 1 (flCells [f]) ∧ Below Y.heap.size Y w2 ∧ Y.heap.size ≤ g2 := by
  obtain ⟨i0, hi, hz0, hz1, hz2⟩ := info_p infF
  have hlt : gX < Y.heap.size := (Array.getElem?_eq_some_iff.1 hY).1
  have hsrc : ∀ j u, ([.string f.pa, .string f.tx, .bool f.rn] : List Value)[j]? = some u → Y.cell? ((⟨gX, 0, none⟩ : Addr).add j) = some u := fun j u hu => by
    rw [add0, Lib.cell_of_heap hY]
    simpa using hu
  cases ao with
  | none =>
    obtain ⟨v2, w2, hr, ho, hg, _⟩ := run_append_own (P := Tryz.prog) Y Y.heap.size 22 22 35 i0 (.agg #[.string ⟨#[]⟩, .string ⟨#[]⟩, .bool false]) 3 40 Tryz.underlying22 hi hz0 hz1 hz2 rfl (by decide) (.slice none 0 0) 0 [] ⟨rfl, .inl ⟨rfl, rfl⟩⟩ ⟨gX, 0, none⟩ 1 1 [.string f.pa, .string f.tx, .bool f.rn] rfl hsrc (fun u hu => by simp at hu; rcases hu with rfl | rfl | rfl <;> rfl) (by decide) (by decide) (Nat.le_refl _)
    obtain ⟨g2, c2, hv2, hg5, _⟩ := ho.form (by omega)
    subst hv2
    exact ⟨g2, c2, w2, hr, row_low ho (by omega), ⟨hg.os, hg.tape, hg.output, hg.size, fun k hk => hg.block k hk (fun e => by cases e)⟩, hg5⟩
  | some x =>
    obtain ⟨v2, w2, hr, ho, hg⟩ := run_append_arg_grows (P := Tryz.prog) Y 22 22 35 i0 (.agg #[.string ⟨#[]⟩, .string ⟨#[]⟩, .bool false]) 3 40 Tryz.underlying22 hi hz0 hz1 hz2 rfl (by decide) x 0 0 [] rfl (fun j u hu => by simp at hu) ⟨gX, 0, none⟩ 1 1 [.string f.pa, .string f.tx, .bool f.rn] rfl hsrc (by omega) (by decide) (by decide)
    obtain ⟨g2, c2, hv2, hg5, _⟩ := ho.form (by omega)
    subst hv2
    exact ⟨g2, c2, w2, hr, row_low ho (by omega), ⟨hg.os, hg.tape, hg.output, hg.size, fun k hk => hg.block k hk (fun e => by cases e)⟩, hg5⟩

set_option maxHeartbeats 8000000 in
set_option maxRecDepth 100000 in
theorem AddFile_e (ao : Option Addr) (cap : Nat) (f : Fl) (w : World) (h0 : ao = none → cap = 0) :
    Calls Tryz.prog 18 #[.slice ao 0 cap, encF f] w (AfP w.heap.size [f] w) := by
  obtain ⟨fp, ft, fr⟩ := f
  obtain ⟨X, hX⟩ : ∃ X, X = w.alloc (.cells #[.string fp, .string ft, .bool fr] 35) := ⟨_, rfl⟩
  have hbX : Below w.heap.size w X := by rw [hX]; exact (Below.refl _ w).alloc (Nat.le_refl _) _
  have hzX : X.heap.size = w.heap.size + 1 := by rw [hX]; exact World.size_alloc _ _
  have x0 : X.cell? ⟨w.heap.size, 0, none⟩ = some (.string fp) := by rw [hX]; exact Lib.cell_of_heap (heap_alloc_new w _) 0
  have x1 : X.cell? ⟨w.heap.size, 1, none⟩ = some (.string ft) := by rw [hX]; exact Lib.cell_of_heap (heap_alloc_new w _) 1
  have x2 : X.cell? ⟨w.heap.size, 2, none⟩ = some (.bool fr) := by rw [hX]; exact Lib.cell_of_heap (heap_alloc_new w _) 2
  have HAp : Hid (∀ n : Nat, ∃ g2 c2 w2, (appS #[22, 22] 22 #[.slice ao 0 0, .slice (some ⟨X.heap.size, 0, none⟩) 1 1]).run Tryz.prog ((X.drewN n).alloc (.cells #[.string fp, .string ft, .bool fr] 35)) = .ok (.slice (some ⟨g2, 0, none⟩) 1 c2) w2 ∧ Hid (AfP w.heap.size [⟨fp, ft, fr⟩] w (.returned (.slice (some ⟨g2, 0, none⟩) 1 c2)) w2)) := fun n => by
    have hn : ((X.drewN n).alloc (.cells #[.string fp, .string ft, .bool fr] 35)).heap[X.heap.size]? = some (.cells #[.string fp, .string ft, .bool fr] 35 (0, 0)) := heap_alloc_new (X.drewN n) _
    obtain ⟨g2, c2, w2, h1, h2, h3, h4⟩ := appO ao ⟨fp, ft, fr⟩ _ X.heap.size w.heap.size hbX.size hn
    have hb2 : Below X.heap.size X ((X.drewN n).alloc (.cells #[.string fp, .string ft, .bool fr] 35)) := ⟨rfl, rfl, rfl, by rw [World.size_alloc]; exact Nat.le_succ _, ((Below.refl X.heap.size (X.drewN n)).alloc (Nat.le_refl _) _).block⟩
    have hs2 := hb2.size
    exact ⟨g2, c2, w2, h1, g2, c2, rfl, h2, below_low hbX (below_low hb2 h3 hb2.size) hbX.size, by omega⟩
  have ha1 : ∀ (A : Option Addr) (c : Nat) (W : World), (appS #[22, 22] 22 #[.slice (some ⟨X.heap.size, 0, none⟩) 1 1, .slice A 0 c]).run Tryz.prog W = .ok (.slice (some ⟨X.heap.size, 0, none⟩) 1 1) W := fun A c W => appE X.heap.size 1 1 c A (Nat.le_refl _) W
  unfold encF
  simp only
  clear hbX hzX
  cases ao with
  | none =>
    obtain rfl := h0 rfl
    clear h0
    go_enter Tryz.func18, Tryz.ntmps18
    go_wp2
    rw [← hX]
    clear hX
    refine wp_loop_rounds 1 ?_
    rw [rounds_succ]
    go_wp2
    go_quiet (fail)
    obtain ⟨g2, c2, w2, ha2, HF⟩ := HAp.out (nq + 1)
    go_wp2
    go_region
    all_goals
      go_wp2
      go_ret
      exact HF.out
  | some x =>
    clear h0
    go_enter Tryz.func18, Tryz.ntmps18
    go_wp2
    rw [← hX]
    clear hX
    refine wp_loop_rounds 1 ?_
    rw [rounds_succ]
    go_wp2
    go_quiet (fail)
    obtain ⟨g2, c2, w2, ha2, HF⟩ := HAp.out (nq + 1)
    go_wp2
    go_region
    all_goals
      go_wp2
      go_ret
      exact HF.out

/-- A file among others that came in. -/
theorem AddFileC (ao : Option Addr) (cap : Nat) (F : List Fl) (f : Fl) (w : World) (hl : IsFl w ao F) (hn : F.length ≤ 1000) (hc : F.length ≤ cap) (h0 : ao = none → cap = 0) :
    Calls Tryz.prog 18 #[.slice ao F.length cap, encF f] w (AfP w.heap.size (insF f F) w) := by
  rcases hl with h | ⟨g, o, rfl, hg, hf⟩
  · subst h
    exact AddFile_e ao cap f w h0
  · exact AddFile_o w.heap.size g o cap F f w hf hc hg hn (Nat.le_refl _)
theorem arg_capF {H : Type} {enc : TypeId × Value → H} {W : World} {ao : Option Addr} {n cap : Nat} {d : DataW H} {p : List MemPlace} (h : DataW.Trod enc Tryz.prog W 0 (fun _ => true) true 22 (.slice ao n cap) d p) : n ≤ cap ∧ (ao = none → cap = 0) := by
  obtain ⟨fuel, hf⟩ := h
  rcases DataW.trod_slice Tryz.underlying22 hf with ⟨hcs, _⟩ | ⟨x, l, c, elems, rest, m, _, hcs, _, _, hlc, _⟩
  · simp [Value.cells] at hcs
    obtain ⟨rfl, rfl, rfl⟩ := hcs
    exact ⟨Nat.le_refl _, fun _ => rfl⟩
  · simp [Value.cells] at hcs
    obtain ⟨rfl, rfl, rfl⟩ := hcs
    exact ⟨hlc, fun e => by cases e⟩
end Go.Proofs.YtapiedeekbfpnaaGreatDoor
