/- Files that came in, of little bulk. -/
import Derived.Test.YtankaiopdbcndaaGreatDoorArgFM
namespace Go.Proofs.YtankaiopdbcndaaGreatDoor
open Go.ChangeShapes Go.WideShapes Go.ChangeAt Go.RowKit Go.Shelf Go.Joins
open Go.Deep (trod_struct3)

theorem bulk_len {H : Type} (l : List (DataW H)) : l.length ≤ Rows.uptoBulkAll l := by
  induction l with
  | nil => exact Nat.zero_le _
  | cons d r ih =>
    have h1 : 1 ≤ Rows.uptoBulk d := by
      cases d with
      | lit x => cases x <;> simp [Rows.uptoBulk]
      | _ => simp [Rows.uptoBulk]
    simp only [Rows.uptoBulkAll, List.length_cons]
    omega
set_option maxRecDepth 100000 in
theorem arg_files_up {H : Type} {enc : TypeId × Value → H} {W : World} {v : Value} {d : DataW H} {p : List MemPlace} {base : Nat}
    (hv : Value.okWide Tryz.prog W .any base 48 v) (h : DataW.Trod enc Tryz.prog W 0 (fun _ => true) true 48 v d p) (hr : ∀ elems sp, d = .slice elems sp → elems.length ≤ 1048576) : ∃ (L : List Fl) (ao : Option Addr) (cap : Nat), v = .slice ao L.length cap ∧ IsFl W ao L ∧ L.length ≤ 1048576 := by
  obtain ⟨a, len, cap, rfl⟩ := okWide_slice Tryz.underlying48 hv
  obtain ⟨fuel, hf⟩ := h
  rcases DataW.trod_slice Tryz.underlying48 hf with ⟨hcs, _⟩ | ⟨x, l, c, elems, rest, n, _, hcs, hx, _, _, _, hlen, hel, _, _⟩
  · simp [Value.cells] at hcs
    obtain ⟨rfl, rfl, rfl⟩ := hcs
    exact ⟨[], none, 0, rfl, Or.inl rfl, by decide⟩
  · simp [Value.cells] at hcs
    obtain ⟨rfl, rfl, rfl⟩ := hcs
    have hb : len ≤ 1048576 := by
      have := hr _ _ (congrArg Prod.fst hx)
      simp at this
      omega
    have each : ∀ i : Fin len, ∃ nd : Fl, (nd.pa.size ≤ maxLen ∧ nd.tx.size ≤ maxLen) ∧ W.cell? (x.add (i.val * 3)) = some (.string nd.pa) ∧ W.cell? ((x.add (i.val * 3)).add 1) = some (.string nd.tx) ∧ W.cell? ((x.add (i.val * 3)).add 2) = some (.bool nd.rn) := by
      intro i
      have h1 := hel i.val i.isLt
      rw [cellsFl, List.getElem?_eq_getElem (by omega : i.val < elems.length), Option.bind_eq_some_iff] at h1
      obtain ⟨cs', hc, hy⟩ := h1
      have hs := World.cells?_some hc
      obtain ⟨nd, rfl, z⟩ := arg_file (by simpa using hs.2.1) hy
      refine ⟨nd, z, ?_, ?_, ?_⟩
      · have := hs.2.2 0 (by omega); simpa [Addr.add] using this
      · have := hs.2.2 1 (by omega); simpa using this
      · have := hs.2.2 2 (by omega); simpa using this
    obtain ⟨f, hf2⟩ := Classical.axiomOfChoice each
    have hlen2 : (List.ofFn f).length = len := by simp
    refine ⟨List.ofFn f, some x, cap, by rw [hlen2], ?_, by rw [hlen2]; exact hb⟩
    by_cases h0 : len = 0
    · exact Or.inl (List.length_eq_zero_iff.1 (hlen2.trans h0))
    · obtain ⟨b, off, spot⟩ := x
      have c0 := (hf2 ⟨0, by omega⟩).2.1
      have hspot : spot = none := by simpa [Addr.add] using World.cell?_spot c0
      subst hspot
      refine Or.inr ⟨b, off, rfl, by simpa [Addr.add] using World.block_lt_of_cell? W _ c0, fun j hj => ?_⟩
      rw [hlen2] at hj
      rw [List.getElem_ofFn]
      have k := (hf2 ⟨j, hj⟩).2
      rw [addr_addF, addr_addF, addr_addF] at k
      exact k
end Go.Proofs.YtankaiopdbcndaaGreatDoor
