/- Targets that came in, their sources too. -/
import Derived.Test.YtankaiopdbcndaaGreatDoorTc7
namespace Go.Proofs.YtankaiopdbcndaaGreatDoor
open Go.ChangeShapes Go.WideShapes Go.ChangeAt Go.RowKit Go.Shelf Go.Joins

set_option maxRecDepth 100000 in
theorem arg_target2 {H : Type} {enc : TypeId × Value → H} {W : World} {cs : List Value} {n : Nat} {y : DataW H × List MemPlace} (hl : cs.length = 5)
    (h : DataW.trod enc Tryz.prog W 0 (fun _ => true) true n 38 cs = some y) (hr : Rows.uptoBulk y.1 ≤ 1048576) : ∃ t : Tg, cs = tgC t ∧ (TxIn W t.vs t.ss ∧ TxIn W t.vn t.ns ∧ TxIn W t.vo t.os ∧ TxIn W t.vc t.cs) ∧ t.nm.size ≤ 1048576 ∧ t.nm.size ≤ maxLen ∧ (∀ s ∈ t.ns, s.size ≤ maxLen) ∧ t.ns.length ≤ Rows.uptoBulk y.1 ∧ (∀ s ∈ t.ss, s.size ≤ maxLen) := by
  match cs, hl with
  | [c0, c1, c2, c3, c4], _ =>
    obtain ⟨xs, m, _, rfl, _, hlen, hf⟩ := DataW.trod_struct Tryz.underlying38 h
    match xs, hlen with
    | [y0, y1, y2, y3, y4], _ =>
      have k1 : Tryz.prog.cellsOf 9 = 1 := by kernel_rfl
      have k2 : Tryz.prog.cellsOf 23 = 1 := by kernel_rfl
      have h0 := hf 0 _ rfl
      have h1 := hf 1 _ rfl
      have h2 := hf 2 _ rfl
      have h3 := hf 3 _ rfl
      have h4 := hf 4 _ rfl
      simp [k1, k2] at h0 h1 h2 h3 h4
      simp only [Rows.uptoBulk, Rows.uptoBulkAll, List.map_cons, List.map_nil] at hr ⊢
      obtain ⟨s, e0, e1, z0⟩ := DataW.trod_string Tryz.underlying9 h0
      simp at e0
      subst e0
      have hs0 : s.size ≤ 1048576 := by
        have e2 : s.data.toList.length = s.size := by simp
        rw [e1] at hr
        simp only [Rows.uptoBulk, e2] at hr
        omega
      obtain ⟨s1, t1, q1, r1⟩ := fieldG h1 (by omega)
      obtain ⟨s2, t2, q2, r2⟩ := fieldG h2 (by omega)
      obtain ⟨s3, t3, q3, r3⟩ := fieldG h3 (by omega)
      obtain ⟨s4, t4, q4, r4⟩ := fieldG h4 (by omega)
      exact ⟨⟨s, c1, c2, c3, c4, s1, s2, s3, s4⟩, rfl, ⟨t1, t2, t3, t4⟩, hs0, z0, q2, by show s2.length ≤ _; omega, q1⟩

set_option maxRecDepth 100000 in
theorem arg_targets2 {H : Type} {enc : TypeId × Value → H} {W : World} {v : Value} {d : DataW H} {p : List MemPlace} {base : Nat}
    (hv : Value.okWide Tryz.prog W .any base 22 v) (h : DataW.Trod enc Tryz.prog W 0 (fun _ => true) true 22 v d p) (hr : Rows.uptoBulk d ≤ 1048576) : ∃ (L : List Tg) (ao : Option Addr) (cap : Nat), v = .slice ao L.length cap ∧ Fine W ao L ∧ (∀ t ∈ L, ∀ s ∈ t.ss, s.size ≤ maxLen) := by
  obtain ⟨a, len, cap, rfl⟩ := okWide_slice Tryz.underlying22 hv
  obtain ⟨fuel, hf⟩ := h
  rcases DataW.trod_slice Tryz.underlying22 hf with ⟨hcs, _⟩ | ⟨x, l, c, elems, rest, n, _, hcs, hx, _, hlc, _, hlen, hel, _, _⟩
  · simp [Value.cells] at hcs
    obtain ⟨rfl, rfl, rfl⟩ := hcs
    exact ⟨[], none, 0, rfl, ⟨⟨.inl rfl, (fun t ht => by cases ht), (fun t ht => by cases ht)⟩, Nat.zero_le _, (fun t ht => by cases ht), (fun t ht => by cases ht), Nat.zero_le _⟩, fun t ht => by cases ht⟩
  · simp [Value.cells] at hcs
    obtain ⟨rfl, rfl, rfl⟩ := hcs
    have hd : d = .slice (elems.map (·.1)) (rest.map (·.1)) := congrArg Prod.fst hx
    have hbk : Rows.uptoBulkAll (elems.map (·.1)) ≤ 1048576 := by
      rw [hd] at hr
      simp only [Rows.uptoBulk] at hr
      omega
    have hb : len ≤ 1048576 := by
      have := bulkG_len (elems.map (·.1))
      rw [List.length_map] at this
      omega
    have each : ∀ i : Fin len, ∃ t : Tg, (TxIn W t.vs t.ss ∧ TxIn W t.vn t.ns ∧ TxIn W t.vo t.os ∧ TxIn W t.vc t.cs) ∧ t.nm.size ≤ 1048576 ∧ t.nm.size ≤ maxLen ∧ (∀ s ∈ t.ns, s.size ≤ maxLen) ∧ t.ns.length ≤ Rows.uptoBulk (elems[i.val]'(by omega)).1 ∧ (∀ s ∈ t.ss, s.size ≤ maxLen) ∧
        W.cell? (x.add (i.val * 5)) = some (.string t.nm) ∧ W.cell? ((x.add (i.val * 5)).add 1) = some t.vs ∧ W.cell? ((x.add (i.val * 5)).add 2) = some t.vn ∧ W.cell? ((x.add (i.val * 5)).add 3) = some t.vo ∧ W.cell? ((x.add (i.val * 5)).add 4) = some t.vc := by
      intro i
      have hi : i.val < elems.length := by omega
      have h1 := hel i.val i.isLt
      rw [cellsTg, List.getElem?_eq_getElem hi, Option.bind_eq_some_iff] at h1
      obtain ⟨cs', hc, hy⟩ := h1
      have hs := World.cells?_some hc
      have hbi := bulkG_mem (elems.map (·.1)) i.val (by simpa using hi)
      rw [List.getElem_map] at hbi
      obtain ⟨t, rfl, q1, q2, q3, q4, q5, q6⟩ := arg_target2 (by simpa using hs.2.1) hy (by omega)
      refine ⟨t, q1, q2, q3, q4, q5, q6, ?_, ?_, ?_, ?_, ?_⟩
      · have := hs.2.2 0 (by omega); simpa [Addr.add, tgC] using this
      · have := hs.2.2 1 (by omega); simpa [tgC] using this
      · have := hs.2.2 2 (by omega); simpa [tgC] using this
      · have := hs.2.2 3 (by omega); simpa [tgC] using this
      · have := hs.2.2 4 (by omega); simpa [tgC] using this
    obtain ⟨f, hf2⟩ := Classical.axiomOfChoice each
    have hlen2 : (List.ofFn f).length = len := by simp
    have hmem : ∀ t ∈ List.ofFn f, ∃ i, t = f i := fun t ht => by
      obtain ⟨i, hi⟩ := List.mem_ofFn.1 ht
      exact ⟨i, hi.symm⟩
    refine ⟨List.ofFn f, some x, cap, by rw [hlen2], ⟨⟨?_, fun t ht => ?_, fun t ht => ?_⟩, by rw [hlen2]; exact hb, fun t ht => ?_, fun t ht => ?_, ?_⟩, fun t ht => ?_⟩
    · by_cases h0 : len = 0
      · exact .inl (List.length_eq_zero_iff.1 (hlen2.trans h0))
      · obtain ⟨b, off, spot⟩ := x
        have c0 := (hf2 ⟨0, by omega⟩).2.2.2.2.2.2.1
        have hspot : spot = none := by simpa [Addr.add] using World.cell?_spot c0
        subst hspot
        refine .inr ⟨b, off, rfl, by simpa [Addr.add] using World.block_lt_of_cell? W _ c0, fun j hj => ?_⟩
        rw [hlen2] at hj
        rw [List.getElem_ofFn]
        have k := (hf2 ⟨j, hj⟩).2.2.2.2.2.2
        simp only [addr_add] at k
        exact k
    · obtain ⟨i, rfl⟩ := hmem t ht
      exact (hf2 i).1
    · obtain ⟨i, rfl⟩ := hmem t ht
      exact (hf2 i).2.1
    · obtain ⟨i, rfl⟩ := hmem t ht
      exact (hf2 i).2.2.2.1
    · obtain ⟨i, rfl⟩ := hmem t ht
      have := (hf2 i).2.2.1
      simpa [tnm] using this
    · refine Nat.le_trans (bulkG_sum _ (elems.map (·.1)) (by simp [hlen]) fun i h1 h2 => ?_) hbk
      have hi : i < len := by simpa using h1
      have k := (hf2 ⟨i, hi⟩).2.2.2.2.1
      simpa using k
    · obtain ⟨i, rfl⟩ := hmem t ht
      exact (hf2 i).2.2.2.2.2.1
end Go.Proofs.YtankaiopdbcndaaGreatDoor
