/- split, whole. -/
import Derived.Test.YtdfimmekhbkglaaDoorTkF
namespace Go.Proofs.YtdfimmekhbkglaaDoor
open Go.RowKit Go.Shelf

/-- What split answers. -/
def SplP (w : World) (r : Except Ft (List Tk)) (e : Ending) (w' : World) : Prop :=
  (∀ (k z : Nat), r = .error (k, z) → e = .returned (.tuple #[.slice none 0 0, .agg #[.int .i64 (k : Int), .int .i64 (z : Int)]])) ∧
  (∀ l, r = .ok l → ∃ tv, e = .returned (.tuple #[tv, .agg #[.int .i64 0, .int .i64 0]]) ∧ w'.ownsRow w.heap.size 30 4 tv l.length (tcs l)) ∧ Below w.heap.size w w'

theorem row_mono {w : World} {base base' : Nat} {e : TypeId} {size : Nat} {v : Value} {n : Nat} {xs : List Value} (h : w.ownsRow base e size v n xs) (hb : base' ≤ base) : w.ownsRow base' e size v n xs := by
  refine ⟨h.1, ?_⟩
  rcases h.2 with h2 | ⟨g, cap, cur, hv, hg, r⟩
  · exact Or.inl h2
  · exact Or.inr ⟨g, cap, cur, hv, Nat.le_trans hb hg, r⟩
/-- Where split begins. -/
def begW (L : List UInt8) (w : World) : World := (((w.alloc (.cells #[.slice none 0 0] 23)).alloc (.cells #[.int .i64 0, .int .i64 0] 26)).alloc (.cells #[.int .i64 0] 3)).alloc (.cells #[.string (mkB L), .int .i64 0, .slice none 0 0, .slice (some ⟨w.heap.size + 1 + 1, 0, none⟩) 1 1, .int .i64 0] 41)
theorem beg_facts (L : List UInt8) (w : World) : TS (w.heap.size + 1 + 1) (w.heap.size + 1 + 1 + 1) L (.slice none 0 0) (.slice (some ⟨w.heap.size + 1 + 1, 0, none⟩) 1 1) (begW L w) ⟨0, [], [0], 0⟩ ∧ Below w.heap.size w (begW L w) ∧
    (begW L w).heap[w.heap.size]? = some (.cells #[.slice none 0 0] 23 (0, 0)) ∧ (begW L w).heap[w.heap.size + 1]? = some (.cells #[.int .i64 0, .int .i64 0] 26 (0, 0)) := by
  have s1 : (w.alloc (.cells #[.slice none 0 0] 23)).heap.size = w.heap.size + 1 := World.size_alloc _ _
  have s2 : ((w.alloc (.cells #[.slice none 0 0] 23)).alloc (.cells #[.int .i64 0, .int .i64 0] 26)).heap.size = w.heap.size + 1 + 1 := by rw [World.size_alloc, s1]
  have s3 : (((w.alloc (.cells #[.slice none 0 0] 23)).alloc (.cells #[.int .i64 0, .int .i64 0] 26)).alloc (.cells #[.int .i64 0] 3)).heap.size = w.heap.size + 1 + 1 + 1 := by rw [World.size_alloc, s2]
  have b0 : (begW L w).heap[w.heap.size]? = some (.cells #[.slice none 0 0] 23 (0, 0)) := by
    unfold begW
    rw [heap_al _ _ _ (by rw [s3]; omega), heap_al _ _ _ (by rw [s2]; omega), heap_al _ _ _ (by rw [s1]; omega)]
    exact heap_alloc_new w _
  have b1 : (begW L w).heap[w.heap.size + 1]? = some (.cells #[.int .i64 0, .int .i64 0] 26 (0, 0)) := by
    unfold begW
    rw [heap_al _ _ _ (by rw [s3]; omega), heap_al _ _ _ (by rw [s2]; omega), ← s1]
    exact heap_alloc_new _ _
  have b2 : (begW L w).heap[w.heap.size + 1 + 1]? = some (.cells #[.int .i64 0] 3 (0, 0)) := by
    unfold begW
    rw [heap_al _ _ _ (by rw [s3]; omega), ← s2]
    exact heap_alloc_new _ _
  have b3 : (begW L w).heap[w.heap.size + 1 + 1 + 1]? = some (.cells #[.string (mkB L), .int .i64 0, .slice none 0 0, .slice (some ⟨w.heap.size + 1 + 1, 0, none⟩) 1 1, .int .i64 0] 41 (0, 0)) := by
    unfold begW
    rw [← s3]
    exact heap_alloc_new _ _
  refine ⟨⟨by omega, b3, World.ownsRow_nil _ _ _ _, ⟨rfl, .inr ⟨w.heap.size + 1 + 1, 1, _, rfl, Nat.le_refl _, b2, Nat.le_refl _, by decide, rfl, rfl⟩⟩, by simp [Value.ownBlock], by simp [Value.ownBlock], by simp [Value.ownBlock]⟩, ?_, b0, b1⟩
  unfold begW
  exact ((((Below.refl _ w).alloc (Nat.le_refl _) _).alloc (by rw [s1]; omega) _).alloc (by rw [s2]; omega) _).alloc (by rw [s3]; omega) _

set_option maxHeartbeats 4000000 in
set_option maxRecDepth 100000 in
theorem split_any (L : List UInt8) (w : World) (hL : L.length ≤ 6000) (hr : ErrR w) :
    Calls Tryd.prog 11 #[.string (mkB L)] w fun e w' => SplP w (splitL L) e w' := by
  have hmf : ∀ (fn : Fn) (first cap : Array Value) (w : World), (Instr.makeFunc fn first cap).run Tryd.prog w = .ok (.func fn first cap) w := fun _ _ _ _ => rfl
  obtain ⟨t0, hb0, l0, f0⟩ := beg_facts L w
  have hg : 1 < w.heap.size + 1 + 1 := by
    obtain ⟨ev, h1, _⟩ := hr
    have := World.block_lt_of_cell? w ⟨1, 0, none⟩ h1
    have : 1 < w.heap.size := this
    omega
  have HLn : Hid (Calls Tryd.prog 14 #[.pointer (some ⟨w.heap.size + 1 + 1 + 1, 0, none⟩)] (begW L w) fun e w' => StP (w.heap.size + 1 + 1) (w.heap.size + 1 + 1 + 1) L (begW L w) (linesF L (L.length + 1) ⟨0, [], [0], 0⟩) e w') :=
    lines_any t0 hL ⟨Nat.zero_le _, ⟨by simp, rfl⟩, by decide, by decide, by decide⟩ hg (hr.up hb0)
  have HB0 : Hid (Below w.heap.size w (begW L w) ∧ (begW L w).heap[w.heap.size]? = some (.cells #[.slice none 0 0] 23 (0, 0)) ∧ (begW L w).heap[w.heap.size + 1]? = some (.cells #[.int .i64 0, .int .i64 0] 26 (0, 0))) := ⟨hb0, l0, f0⟩
  have HSp : Hid (splitL L = match linesF L (L.length + 1) ⟨0, [], [0], 0⟩ with | .error x => .error x | .ok q => .ok q.toks) := rfl
  clear t0 hb0 l0 f0 hg hr
  cases hli : linesF L (L.length + 1) ⟨0, [], [0], 0⟩ with
  | error x =>
    obtain ⟨k, z⟩ := x
    rw [hli] at HLn HSp
    clear hli
    have HRV : Hid (splitL L = .error (k, z)) := HSp.out
    go_enter_defers Tryd.func11, Tryd.ntmps11
    go_wp2_with fail
    refine HLn.out.mono ?_
    rintro e w1 ⟨h1, -, hb1⟩
    obtain rfl := h1 k z rfl
    have l1 := (hb1.block w.heap.size (by omega)).trans HB0.out.2.1
    have f1 := (hb1.block (w.heap.size + 1) (by omega)).trans HB0.out.2.2
    have HB1 : Hid (Below w.heap.size w w1) := HB0.out.1.trans (hb1.mono (by omega))
    have q0 : w1.cell? ⟨w.heap.size, 0, none⟩ = some (.slice none 0 0) := by rw [Lib.cell_of_heap l1]; rfl
    have q1 : w1.cell? ⟨w.heap.size + 1, 0, none⟩ = some (.int .i64 0) := by rw [Lib.cell_of_heap f1]; rfl
    have q2 : w1.cell? ⟨w.heap.size + 1, 1, none⟩ = some (.int .i64 0) := by rw [Lib.cell_of_heap f1]; rfl
    have r0 : w1.frozen? ⟨w.heap.size, 0, none⟩ = false := Lib.frozen_of_heap l1 0
    have r1 : w1.frozen? ⟨w.heap.size + 1, 0, none⟩ = false := Lib.frozen_of_heap f1 0
    have r2 : w1.frozen? ⟨w.heap.size + 1, 1, none⟩ = false := Lib.frozen_of_heap f1 1
    clear h1 hb1 l1 f1
    go_wp2
    refine leaves_cons (f := 13) (args := #[.pointer (some ⟨w.heap.size, 0, none⟩), .pointer (some ⟨w.heap.size + 1, 0, none⟩)]) (by simp) (by simp [go_sem]) ?_
    refine (catch_pan w.heap.size w.heap.size (w.heap.size + 1) _ _ _ k z [] _ q0 q1 q2 r0 r1 r2 (by omega) (Nat.le_refl _) (Nat.le_succ _)).mono ?_
    rintro e u' w2 ⟨rfl, rfl, s0, s1, s2, hb2⟩
    simp [Leaves, settle, results, Tryd.results11, go_sem, s0, s1, s2]
    refine ⟨fun k' z' hz => ?_, fun l hl => ?_, HB1.out.trans hb2⟩
    · rw [HRV.out] at hz; cases hz; rfl
    · rw [HRV.out] at hl; cases hl
  | ok q =>
    rw [hli] at HLn HSp
    clear hli
    have HRV : Hid (splitL L = .ok q.toks) := HSp.out
    go_enter_defers Tryd.func11, Tryd.ntmps11
    go_wp2_with fail
    refine HLn.out.mono ?_
    rintro e w1 ⟨-, h2, hb1⟩
    obtain ⟨rfl, tv, iv, hts⟩ := h2 q rfl
    have l1 := (hb1.block w.heap.size (by omega)).trans HB0.out.2.1
    have f1 := (hb1.block (w.heap.size + 1) (by omega)).trans HB0.out.2.2
    have HB1 : Hid (Below w.heap.size w w1) := HB0.out.1.trans (hb1.mono (by omega))
    have q0 : w1.cell? ⟨w.heap.size, 0, none⟩ = some (.slice none 0 0) := by rw [Lib.cell_of_heap l1]; rfl
    have q1 : w1.cell? ⟨w.heap.size + 1, 0, none⟩ = some (.int .i64 0) := by rw [Lib.cell_of_heap f1]; rfl
    have q2 : w1.cell? ⟨w.heap.size + 1, 1, none⟩ = some (.int .i64 0) := by rw [Lib.cell_of_heap f1]; rfl
    have r0 : w1.frozen? ⟨w.heap.size, 0, none⟩ = false := Lib.frozen_of_heap l1 0
    have r1 : w1.frozen? ⟨w.heap.size + 1, 0, none⟩ = false := Lib.frozen_of_heap f1 0
    have r2 : w1.frozen? ⟨w.heap.size + 1, 1, none⟩ = false := Lib.frozen_of_heap f1 1
    have c2 := hts.c2
    obtain ⟨ao, cap, htv⟩ := row_shape hts.ot
    subst htv
    have HT : Hid (TS (w.heap.size + 1 + 1) (w.heap.size + 1 + 1 + 1) L (.slice ao q.toks.length cap) iv w1 q) := hts
    clear h2 hb1 l1 f1 hts
    have s0 : (((w1.setCell ⟨w.heap.size, 0, none⟩ (.slice ao q.toks.length cap)).setCell ⟨w.heap.size + 1, 0, none⟩ (.int .i64 0)).setCell ⟨w.heap.size + 1, 1, none⟩ (.int .i64 0)).cell? ⟨w.heap.size, 0, none⟩ = some (.slice ao q.toks.length cap) := by simp [go_sem, q0]
    have s1 : (((w1.setCell ⟨w.heap.size, 0, none⟩ (.slice ao q.toks.length cap)).setCell ⟨w.heap.size + 1, 0, none⟩ (.int .i64 0)).setCell ⟨w.heap.size + 1, 1, none⟩ (.int .i64 0)).cell? ⟨w.heap.size + 1, 0, none⟩ = some (.int .i64 0) := by simp [go_sem, q1]
    have s2 : (((w1.setCell ⟨w.heap.size, 0, none⟩ (.slice ao q.toks.length cap)).setCell ⟨w.heap.size + 1, 0, none⟩ (.int .i64 0)).setCell ⟨w.heap.size + 1, 1, none⟩ (.int .i64 0)).cell? ⟨w.heap.size + 1, 1, none⟩ = some (.int .i64 0) := by simp [go_sem, q2]
    have HS : Hid ((((w1.setCell ⟨w.heap.size, 0, none⟩ (.slice ao q.toks.length cap)).setCell ⟨w.heap.size + 1, 0, none⟩ (.int .i64 0)).setCell ⟨w.heap.size + 1, 1, none⟩ (.int .i64 0)).cell? ⟨w.heap.size, 0, none⟩ = some (.slice ao q.toks.length cap) ∧ (((w1.setCell ⟨w.heap.size, 0, none⟩ (.slice ao q.toks.length cap)).setCell ⟨w.heap.size + 1, 0, none⟩ (.int .i64 0)).setCell ⟨w.heap.size + 1, 1, none⟩ (.int .i64 0)).cell? ⟨w.heap.size + 1, 0, none⟩ = some (.int .i64 0) ∧ (((w1.setCell ⟨w.heap.size, 0, none⟩ (.slice ao q.toks.length cap)).setCell ⟨w.heap.size + 1, 0, none⟩ (.int .i64 0)).setCell ⟨w.heap.size + 1, 1, none⟩ (.int .i64 0)).cell? ⟨w.heap.size + 1, 1, none⟩ = some (.int .i64 0)) := ⟨s0, s1, s2⟩
    have HO : Hid ((((w1.setCell ⟨w.heap.size, 0, none⟩ (.slice ao q.toks.length cap)).setCell ⟨w.heap.size + 1, 0, none⟩ (.int .i64 0)).setCell ⟨w.heap.size + 1, 1, none⟩ (.int .i64 0)).ownsRow (w.heap.size + 1 + 1) 30 4 (.slice ao q.toks.length cap) q.toks.length (tcs q.toks)) := own_heap HT.out.ot fun g hg => by
      have := (HT.out.ot.lt g hg).1
      exact (Below.heap_setCell _ ⟨w.heap.size + 1, 1, none⟩ _ g (by show ¬ g = w.heap.size + 1; omega)).trans ((Below.heap_setCell _ ⟨w.heap.size + 1, 0, none⟩ _ g (by show ¬ g = w.heap.size + 1; omega)).trans (Below.heap_setCell _ ⟨w.heap.size, 0, none⟩ _ g (by show ¬ g = w.heap.size; omega)))
    have HB2 : Hid (Below w.heap.size w (((w1.setCell ⟨w.heap.size, 0, none⟩ (.slice ao q.toks.length cap)).setCell ⟨w.heap.size + 1, 0, none⟩ (.int .i64 0)).setCell ⟨w.heap.size + 1, 1, none⟩ (.int .i64 0))) := ((HB1.out.setCell (p := ⟨w.heap.size, 0, none⟩) (Nat.le_refl _) _).setCell (p := ⟨w.heap.size + 1, 0, none⟩) (Nat.le_succ _) _).setCell (p := ⟨w.heap.size + 1, 1, none⟩) (Nat.le_succ _) _
    clear s0 s1 s2
    go_wp2
    generalize ((w1.setCell ⟨w.heap.size, 0, none⟩ (.slice ao q.toks.length cap)).setCell ⟨w.heap.size + 1, 0, none⟩ (.int .i64 0)).setCell ⟨w.heap.size + 1, 1, none⟩ (.int .i64 0) = w2 at *
    refine leaves_cons (f := 13) (args := #[.pointer (some ⟨w.heap.size, 0, none⟩), .pointer (some ⟨w.heap.size + 1, 0, none⟩)]) (by simp) (by simp [go_sem]) ?_
    refine (catch_idle ⟨w.heap.size, 0, none⟩ ⟨w.heap.size + 1, 0, none⟩ _).mono ?_
    rintro e u' w3 ⟨rfl, rfl, hb3⟩
    have k0 := (hb3.cell (World.block_lt_of_cell? w2 _ HS.out.1)).trans HS.out.1
    have k1 := (hb3.cell (World.block_lt_of_cell? w2 _ HS.out.2.1)).trans HS.out.2.1
    have k2 := (hb3.cell (World.block_lt_of_cell? w2 _ HS.out.2.2)).trans HS.out.2.2
    have hle : w.heap.size ≤ w2.heap.size := Nat.le_of_lt (World.block_lt_of_cell? w2 _ HS.out.1)
    simp [Leaves, settle, results, Tryd.results11, go_sem, k0, k1, k2]
    refine ⟨fun k' z' hz => ?_, fun l hl => ?_, HB2.out.trans (hb3.mono hle)⟩
    · rw [HRV.out] at hz; cases hz
    · rw [HRV.out] at hl
      cases hl
      exact ⟨_, rfl, row_mono (own_heap HO.out fun g hg => hb3.block g (HO.out.lt g hg).2) (by omega)⟩
end Go.Proofs.YtdfimmekhbkglaaDoor
