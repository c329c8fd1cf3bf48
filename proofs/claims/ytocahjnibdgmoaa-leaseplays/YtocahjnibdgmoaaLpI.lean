/- Two appends that lay one among others: append(l[:k:k], append([]T{x}, l[k:]...)...). -/
import Derived.Test.YtocahjnibdgmoaaLpH
namespace Go.Proofs.Ytocahjnibdgmoaa
open Go.RowKit Go.Shelf Go.Sort

set_option maxRecDepth 100000 in
/-- Leases in a row of one's own: laid in at a place. -/
theorem ins_two {w : World} {B g cap : Nat} {l : List (List UInt8 × Int × Int)} (h : w.ownsRow B 52 3 (.slice (some ⟨g, 0, none⟩) l.length cap) l.length (lcs l)) (h0 : 0 < l.length) (hn : l.length ≤ 1000000) (s : ByteArray) (q t : Int) (k : Nat) (hk : k ≤ l.length) :
    ∃ (A : Addr) (v1 v2 : Value) (w1 w2 : World), (if cap = k then some (⟨g, 0, none⟩ : Addr) else some ⟨g, k * 3, none⟩) = some A ∧
      (appS #[34, 34] 34 #[.slice (some ⟨w.heap.size, 0, none⟩) 1 1, .slice (some A) (l.length - k) (cap - k)]).run Try.prog ((w.alloc (.cells #[.string s, .int .i64 q, .int .i64 t] 52)).drew) = .ok v1 w1 ∧
      (appS #[34, 34] 34 #[.slice (some ⟨g, 0, none⟩) k k, v1]).run Try.prog w1 = .ok v2 w2 ∧ w2.ownsRow w.heap.size 52 3 v2 (l.length + 1) (lcs (l.take k ++ (s.data.toList, q, t) :: l.drop k)) ∧ Below w.heap.size w w2 := by
  have hg2 := (h.lt g rfl).2
  have hcap : l.length ≤ cap := by
    rcases h.2 with ⟨e, _⟩ | ⟨g', cap', cur, e, _, _, hle, _⟩
    · cases e
    · cases e; exact hle
  have hcell : ∀ j u, (lcs l)[j]? = some u → w.cell? ⟨g, j, none⟩ = some u := fun j u hu => by
    have hj : j < l.length * 3 := by rw [← lcs_len]; exact (List.getElem?_eq_some_iff.1 hu).1
    exact (h.cellAt j hj).trans hu
  obtain ⟨i0, hi, hz0, hz1, hz2⟩ := info_parts infL
  have hzA : ((w.alloc (.cells #[.string s, .int .i64 q, .int .i64 t] 52)).drew).heap.size = w.heap.size + 1 := World.size_alloc _ _
  have hAl : ∀ x : Nat, x < w.heap.size → ((w.alloc (.cells #[.string s, .int .i64 q, .int .i64 t] 52)).drew).heap[x]? = w.heap[x]? := fun x hx => heap_al w _ x hx
  have hlc : ∀ j u, (lcs l)[j]? = some u → ((w.alloc (.cells #[.string s, .int .i64 q, .int .i64 t] 52)).drew).cell? ⟨g, j, none⟩ = some u := fun j u hu => (World.cell?_of_block (w := w) (hAl g hg2)).trans (hcell j u hu)
  have one : ∀ (z : List (List UInt8 × Int × Int)), ∀ u ∈ lcs z, u.oneCell' = true := fun z u hu => by
    unfold lcs at hu
    obtain ⟨x, _, hx⟩ := List.mem_flatMap.1 hu
    simp at hx
    rcases hx with rfl | rfl | rfl <;> rfl
  obtain ⟨A, hA, hsrc⟩ : ∃ A : Addr, (if cap = k then some (⟨g, 0, none⟩ : Addr) else some ⟨g, k * 3, none⟩) = some A ∧ ∀ j u, (lcs (l.drop k))[j]? = some u → ((w.alloc (.cells #[.string s, .int .i64 q, .int .i64 t] 52)).drew).cell? (A.add j) = some u := by
    by_cases hck : cap = k
    · refine ⟨⟨g, 0, none⟩, by simp [hck], fun j u hu => ?_⟩
      have : l.drop k = [] := List.drop_eq_nil_iff.2 (by omega)
      rw [this] at hu
      simp [lcs] at hu
    · refine ⟨⟨g, k * 3, none⟩, by simp [hck], fun j u hu => ?_⟩
      rw [addO]
      refine hlc _ u ?_
      rw [← lcs_drop, List.getElem?_drop] at hu
      exact hu
  have hown0 : ((w.alloc (.cells #[.string s, .int .i64 q, .int .i64 t] 52)).drew).ownsRow w.heap.size 52 3 (.slice (some ⟨w.heap.size, 0, none⟩) 1 1) 1 [.string s, .int .i64 q, .int .i64 t] :=
    ⟨rfl, .inr ⟨w.heap.size, 1, #[.string s, .int .i64 q, .int .i64 t], rfl, Nat.le_refl _, heap_alloc_new w _, Nat.le_refl _, by decide, rfl, rfl⟩⟩
  obtain ⟨v1, w1, hr1, ho1, hg1', _⟩ := run_append_own (P := Try.prog) ((w.alloc (.cells #[.string s, .int .i64 q, .int .i64 t] 52)).drew) w.heap.size 34 34 52 i0 (.agg #[.string ⟨#[]⟩, .int .i64 0, .int .i64 0]) 3 32 Try.underlying34 hi hz0 hz1 hz2 rfl (by decide) (.slice (some ⟨w.heap.size, 0, none⟩) 1 1) 1 [.string s, .int .i64 q, .int .i64 t] hown0 A (l.length - k) (cap - k) (lcs (l.drop k)) (by rw [lcs_len, List.length_drop]) hsrc (one _) (by unfold maxLen; omega) (by omega) (by omega)
  obtain ⟨g1, c1, hv1, hg3, hg4⟩ := ho1.form (by omega)
  have hw1 : ∀ x : Nat, x < w.heap.size → w1.heap[x]? = w.heap[x]? := fun x hx => (hg1'.block x (by omega) (fun e => by simp [Value.ownBlock] at e; omega)).trans (hAl x hx)
  have hcells1 : ∀ j u, ([.string s, .int .i64 q, .int .i64 t] ++ lcs (l.drop k))[j]? = some u → w1.cell? ((⟨g1, 0, none⟩ : Addr).add j) = some u := by
    have := ho1
    rw [hv1] at this
    exact this.cells rfl
  have hsz1 : w.heap.size ≤ w1.heap.size := by have := hg1'.size; omega
  obtain ⟨v2, w2, hr2, ho2, hg2'⟩ := run_append_arg_grows (P := Try.prog) w1 34 34 52 i0 (.agg #[.string ⟨#[]⟩, .int .i64 0, .int .i64 0]) 3 32 Try.underlying34 hi hz0 hz1 hz2 rfl (by decide) ⟨g, 0, none⟩ k k (lcs (l.take k)) (by rw [lcs_len, List.length_take]; congr 1; omega) (fun j u hu => by
      rw [add0, World.cell?_of_block (w := w) (hw1 g hg2)]
      refine hcell j u ?_
      rw [← lcs_take, List.getElem?_take] at hu
      split at hu
      · exact hu
      · cases hu) ⟨g1, 0, none⟩ (1 + (l.length - k)) c1 ([.string s, .int .i64 q, .int .i64 t] ++ lcs (l.drop k)) (by rw [List.length_append, lcs_len, List.length_drop]; simp; omega) hcells1 (by omega) (by unfold maxLen; omega) (by omega)
  refine ⟨A, v1, v2, w1, w2, hA, hr1, by rw [hv1]; exact hr2, ?_, ?_⟩
  · have hc2 : lcs (l.take k ++ (s.data.toList, q, t) :: l.drop k) = lcs (l.take k) ++ ([.string s, .int .i64 q, .int .i64 t] ++ lcs (l.drop k)) := by
      rw [lcs_appL, show lcs ((s.data.toList, q, t) :: l.drop k) = [.string s, .int .i64 q, .int .i64 t] ++ lcs (l.drop k) from by unfold lcs; rw [List.flatMap_cons, encS]]
    have hl2 : l.length + 1 = k + (1 + (l.length - k)) := by omega
    rw [hl2, hc2]
    obtain ⟨x1, x2⟩ := ho2
    refine ⟨x1, ?_⟩
    rcases x2 with x2 | ⟨a1, a2, a3, a4, a5, a6⟩
    · exact .inl x2
    · exact .inr ⟨a1, a2, a3, a4, by omega, a6⟩
  · refine ⟨?_, ?_, ?_, ?_, fun x hx => ?_⟩
    · exact hg2'.os.trans hg1'.os
    · exact hg2'.tape.trans hg1'.tape
    · exact hg2'.output.trans hg1'.output
    · have := hg2'.size; omega
    · exact (hg2'.block x (by omega) (fun e => by cases e)).trans (hw1 x hx)

theorem app_emptyL (N n c : Nat) (hnc : n ≤ c) (W : World) : (Builtin.append_ #[34, 34] 34 #[.slice (some ⟨N, 0, none⟩) n c, .slice none 0 0]).run Try.prog W = .ok (.slice (some ⟨N, 0, none⟩) n c) W := by
  obtain ⟨i0, hi, hz0, hz1, hz2⟩ := info_parts infL
  simp [Builtin.append_, run_underlying Try.underlying34, sizeOf, typeInfo, hi, Builtin.lenOf, Builtin.firstCells, storeCells, hnc]
/-- The first one. -/
theorem ins_first (w : World) (s : ByteArray) (q t : Int) :
    ∃ (v2 : Value) (w2 : World), (appS #[34, 34] 34 #[.slice (some ⟨w.heap.size, 0, none⟩) 1 1, .slice none 0 0]).run Try.prog ((w.alloc (.cells #[.string s, .int .i64 q, .int .i64 t] 52)).drew) = .ok (.slice (some ⟨w.heap.size, 0, none⟩) 1 1) ((w.alloc (.cells #[.string s, .int .i64 q, .int .i64 t] 52)).drew) ∧
      (appS #[34, 34] 34 #[.slice none 0 0, .slice (some ⟨w.heap.size, 0, none⟩) 1 1]).run Try.prog ((w.alloc (.cells #[.string s, .int .i64 q, .int .i64 t] 52)).drew) = .ok v2 w2 ∧ w2.ownsRow w.heap.size 52 3 v2 1 (lcs [(s.data.toList, q, t)]) ∧ Below w.heap.size w w2 := by
  obtain ⟨i0, hi, hz0, hz1, hz2⟩ := info_parts infL
  have hzA : (w.alloc (.cells #[.string s, .int .i64 q, .int .i64 t] 52)).heap.size = w.heap.size + 1 := World.size_alloc _ _
  obtain ⟨g', cap', w1, hrun, hown, hgrow, hat, hlt⟩ := run_append_lies (P := Try.prog) ((w.alloc (.cells #[.string s, .int .i64 q, .int .i64 t] 52)).drew) 34 34 w.heap.size 52 i0 (.agg #[.string ⟨#[]⟩, .int .i64 0, .int .i64 0]) 3 32 Try.underlying34 hi hz0 hz1 hz2 rfl (by decide) (.slice none 0 0) 0 [] (World.ownsRow_nil _ _ _ _) ⟨w.heap.size, 0, none⟩ 1 1 [.string s, .int .i64 q, .int .i64 t] rfl (new3 w _ _ _ _) (by simp [Value.oneCell']) (by decide) (by decide) (by decide) (by show w.heap.size ≤ (w.alloc _).heap.size; omega) (w.heap.size + 1) hzA
  have hA : Below w.heap.size w ((w.alloc (.cells #[.string s, .int .i64 q, .int .i64 t] 52)).drew) := ((Below.refl _ w).alloc (Nat.le_refl _) _).drew
  refine ⟨_, w1, app_emptyL _ _ _ (Nat.le_refl _) _, hrun, ?_, ⟨hgrow.os.trans hA.os, hgrow.tape.trans hA.tape, hgrow.output.trans hA.output, Nat.le_trans hA.size hgrow.size, fun x hx => (hgrow.block x (by have := hA.size; omega) (fun e => by cases e)).trans (hA.block x hx)⟩⟩
  have : lcs [(s.data.toList, q, t)] = [] ++ [.string s, .int .i64 q, .int .i64 t] := by unfold lcs; simp [encS]
  rw [this]
  exact hown
end Go.Proofs.Ytocahjnibdgmoaa
