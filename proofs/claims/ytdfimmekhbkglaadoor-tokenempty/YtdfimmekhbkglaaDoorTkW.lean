/- A source, split. -/
import Derived.Test.YtdfimmekhbkglaaDoorTkV
import Derived.Shelf.Strconv.Clone
namespace Go.Proofs.YtdfimmekhbkglaaDoor
open Go.RowKit Go.Shelf

/-- The shelf's contract for Clone, laid at this program. -/
def laysCl_ren : Ren := ⟨fun | 316 => 15 | n => n, fun | 9 => 9 | 3 => 3 | 4 => 4 | 37 => 32 | 0 => 0 | 127 => 44 | 5 => 5 | n => n, fun | n => n⟩
theorem laysCl : Go.Proofs.LaysM.n316 Tryd.prog laysCl_ren := {
  mixed := by kernel_rfl
  f316 := Tryd.func15.trans (congrArg some (by kernel_rfl))
  t0 := Tryd.underlying0
  a0 := Tryd.isAgg0
  z0 := Tryd.sizeOf0
  v0 := Tryd.zeroValue0
  t3 := Tryd.underlying3
  a3 := Tryd.isAgg3
  z3 := Tryd.sizeOf3
  v3 := Tryd.zeroValue3
  t4 := Tryd.underlying4
  a4 := Tryd.isAgg4
  z4 := Tryd.sizeOf4
  v4 := Tryd.zeroValue4
  t9 := Tryd.underlying9
  a9 := Tryd.isAgg9
  z9 := Tryd.sizeOf9
  v9 := Tryd.zeroValue9
  t37 := Tryd.underlying32
  a37 := Tryd.isAgg32
  z37 := Tryd.sizeOf32
  v37 := Tryd.zeroValue32
  t127 := Tryd.underlying44
  a127 := Tryd.isAgg44
  z127 := Tryd.sizeOf44
  v127 := Tryd.zeroValue44
  t5 := Tryd.underlying5
  a5 := Tryd.isAgg5
  z5 := Tryd.sizeOf5
  v5 := Tryd.zeroValue5
  i0 := by kernel_rfl
  i3 := by kernel_rfl
  i4 := by kernel_rfl
  i5 := by kernel_rfl
  i9 := by kernel_rfl
  i37 := by kernel_rfl
  i127 := by kernel_rfl }
theorem cloneLite (s : ByteArray) (w : World) (hlim : s.size ≤ 281474976710656) :
    Calls Tryd.prog 15 #[.string s] w fun e w' => e = .returned (.string s) ∧ Below w.heap.size w w' := Any.stringslite_Clone laysCl s w hlim
theorem clone_any (s : ByteArray) (w : World) (hlim : s.size ≤ 281474976710656) :
    Calls Tryd.prog 12 #[.string s] w fun e w' => e = .returned (.string s) ∧ Below w.heap.size w w' := by
  go_enter Tryd.func12, Tryd.ntmps12
  go_wp2_with (go_at_call 15; refine (cloneLite s _ hlim).mono ?_; rintro e w' ⟨rfl, hb⟩)
  go_ret
  exact ⟨rfl, hb⟩

/-- What Split answers, plain. -/
def splitA (L : List UInt8) : Except Ft (List Tk) := if L.length ≤ 6000 then splitL L else .error (2, 0)

set_option maxHeartbeats 4000000 in
set_option maxRecDepth 100000 in
theorem Split_any (L : List UInt8) (w : World) (hr : ErrR w) :
    Calls Tryd.prog 7 #[.string (mkB L)] w fun e w' => SplP w (splitA L) e w' := by
  have hsz := mk_size L
  by_cases hL : L.length ≤ 6000
  · have HA : Hid (splitA L = splitL L) := if_pos hL
    have hn : ¬ (6000 : Int) < ((mkB L).size : Int) := by omega
    have HCl : Hid (∀ W, Calls Tryd.prog 12 #[.string (mkB L)] W fun e w' => e = .returned (.string (mkB L)) ∧ Below W.heap.size W w') := fun W => clone_any (mkB L) W (by omega)
    have HSp : Hid (∀ W, Below w.heap.size w W → Calls Tryd.prog 11 #[.string (mkB L)] W fun e w' => SplP W (splitL L) e w') := fun W hW => split_any L W hL (hr.up hW)
    have HR : Hid (ErrR w) := hr
    clear hr hL hsz
    have hb0 : Below w.heap.size w (w.alloc (.cells #[.int .i64 0, .int .i64 0] 26)) := (Below.refl _ w).alloc (Nat.le_refl _) _
    have l0 := heap_alloc_new w (.cells #[.int .i64 0, .int .i64 0] 26)
    have hz0 : (w.alloc (.cells #[.int .i64 0, .int .i64 0] 26)).heap.size = w.heap.size + 1 := World.size_alloc _ _
    have H0 : Hid (Below w.heap.size w (w.alloc (.cells #[.int .i64 0, .int .i64 0] 26)) ∧ (w.alloc (.cells #[.int .i64 0, .int .i64 0] 26)).heap[w.heap.size]? = some (.cells #[.int .i64 0, .int .i64 0] 26 (0, 0)) ∧ (w.alloc (.cells #[.int .i64 0, .int .i64 0] 26)).heap.size = w.heap.size + 1) := ⟨hb0, l0, hz0⟩
    clear hb0 l0 hz0
    go_enter Tryd.func7, Tryd.ntmps7
    go_wp2_with fail
    generalize w.alloc (.cells #[.int .i64 0, .int .i64 0] 26) = W0 at *
    refine (HCl.out W0).mono ?_
    rintro e W1 ⟨rfl, hb1⟩
    have hlt1 : w.heap.size < W1.heap.size := by have := hb1.size; have := H0.out.2.2; omega
    have H1 : Hid (Below w.heap.size w W1 ∧ W1.heap[w.heap.size]? = some (.cells #[.int .i64 0, .int .i64 0] 26 (0, 0)) ∧ w.heap.size < W1.heap.size) := ⟨H0.out.1.trans (hb1.mono (by have := H0.out.2.2; omega)), (hb1.block _ (by have := H0.out.2.2; omega)).trans H0.out.2.1, hlt1⟩
    clear hb1 H0 hlt1
    go_wp2_with fail
    refine (HSp.out W1 H1.out.1).mono ?_
    rintro e W2 ⟨h1, h2, hb2⟩
    have l2 := (hb2.block _ H1.out.2.2).trans H1.out.2.1
    have q0 : W2.cell? ⟨w.heap.size, 0, none⟩ = some (.int .i64 0) := by rw [Lib.cell_of_heap l2]; rfl
    have q1 : W2.cell? ⟨w.heap.size, 1, none⟩ = some (.int .i64 0) := by rw [Lib.cell_of_heap l2]; rfl
    have r0 : W2.frozen? ⟨w.heap.size, 0, none⟩ = false := Lib.frozen_of_heap l2 0
    have r1 : W2.frozen? ⟨w.heap.size, 1, none⟩ = false := Lib.frozen_of_heap l2 1
    have HB2 : Hid (Below w.heap.size w W2) := H1.out.1.trans (hb2.mono (Nat.le_of_lt H1.out.2.2))
    have HW : Hid (∀ a b : Value, Below w.heap.size w ((W2.setCell ⟨w.heap.size, 0, none⟩ a).setCell ⟨w.heap.size, 1, none⟩ b)) := fun a b => (HB2.out.setCell (p := ⟨w.heap.size, 0, none⟩) (Nat.le_refl _) _).setCell (p := ⟨w.heap.size, 1, none⟩) (Nat.le_refl _) _
    clear hb2 l2
    cases hsp : splitL L with
    | error x =>
      obtain ⟨k, z⟩ := x
      rw [hsp] at HA
      obtain rfl := h1 k z hsp
      clear h1 h2 hsp
      go_wp2
      refine bodyPost_ret (v := .tuple #[.slice none 0 0, .agg #[.int .i64 (k : Int), .int .i64 (z : Int)]]) (by simp [results, Tryd.results7, go_sem, q0, q1]) rfl ?_
      refine ⟨fun k' z' hz => ?_, fun l hl => ?_, HW.out _ _⟩
      · rw [HA.out] at hz; cases hz; rfl
      · rw [HA.out] at hl; cases hl
    | ok l =>
      rw [hsp] at HA
      obtain ⟨tv, rfl, ho⟩ := h2 l hsp
      have HO : Hid (∀ a b : Value, ((W2.setCell ⟨w.heap.size, 0, none⟩ a).setCell ⟨w.heap.size, 1, none⟩ b).ownsRow w.heap.size 30 4 tv l.length (tcs l)) := fun a b => row_mono (own_heap ho fun g hg => by
        have := (ho.lt g hg).1
        have := H1.out.2.2
        exact (Below.heap_setCell _ ⟨w.heap.size, 1, none⟩ _ g (by show ¬ g = w.heap.size; omega)).trans (Below.heap_setCell _ ⟨w.heap.size, 0, none⟩ _ g (by show ¬ g = w.heap.size; omega))) (Nat.le_of_lt H1.out.2.2)
      clear h1 h2 hsp ho
      go_wp2
      refine bodyPost_ret (v := .tuple #[tv, .agg #[.int .i64 0, .int .i64 0]]) (by simp [results, Tryd.results7, go_sem, q0, q1]) rfl ?_
      refine ⟨fun k' z' hz => ?_, fun l hl => ?_, HW.out _ _⟩
      · rw [HA.out] at hz; cases hz
      · rw [HA.out] at hl; cases hl
        exact ⟨_, rfl, HO.out _ _⟩
  · have HA : Hid (splitA L = .error (2, 0)) := if_neg hL
    have hn : (6000 : Int) < ((mkB L).size : Int) := by omega
    clear hr hL hsz
    go_enter Tryd.func7, Tryd.ntmps7
    go_wp2
    refine bodyPost_ret (v := .tuple #[.slice none 0 0, .agg #[.int .i64 2, .int .i64 0]]) (by simp [results, Tryd.results7, go_sem]) rfl ?_
    refine ⟨fun k' z' hz => ?_, fun l hl => ?_, ?_⟩
    · rw [HA.out] at hz; cases hz; rfl
    · rw [HA.out] at hl; cases hl
    · exact (Below.refl _ w).alloc (Nat.le_refl _) _
end Go.Proofs.YtdfimmekhbkglaaDoor
