/- An action that came in as an argument. -/
import Derived.Test.YtmjemnmcndajpaaDoorPackA
import Derived.Test.YtmjemnmcndajpaaDoorArgT
import Derived.Lib.SmallJoins
namespace Go.Proofs.YtmjemnmcndajpaaDoor
open Go.ChangeShapes Go.WideShapes Go.ChangeAt Go.RowKit Go.Shelf Go.Joins
open Go.ChangeMaps (open_string shut_string)

theorem cellsA : Tryd.prog.cellsOf 26 = 4 := by kernel_rfl

set_option maxRecDepth 100000 in
/-- A slice of texts that stands in a field. -/
theorem field_texts {H : Type} {enc : TypeId × Value → H} {W : World} {v : Value} {n : Nat} {y : DataW H × List MemPlace}
    (hf : DataW.trod enc Tryd.prog W 0 (fun _ => true) true n 24 [v] = some y) (hr : ∀ elems sp, y.1 = .slice elems sp → elems.length ≤ 4611686018427387904) : ∃ ss, IsTexts W v ss := by
  rcases open_strings Tryd.underlying24 Tryd.underlying9 (by kernel_rfl) hf with ⟨hcs, _⟩ | ⟨x, l, c, ss, hcs, _, hl, hm, hz, hx, hcell, hws⟩
  · obtain rfl : v = .slice none 0 0 := by simpa using hcs
    exact ⟨[], by decide, none, 0, rfl, Or.inl rfl⟩
  · obtain rfl : v = .slice (some x) l c := by simpa using hcs
    have hz' : ss.length = c := by simpa using hz
    have hlen : (ss.take l).length = l := by rw [List.length_take]; omega
    have hb : l ≤ 4611686018427387904 := by
      have := hr _ _ (congrArg Prod.fst hx)
      simp [Go.ChangeShapes.strs] at this
      omega
    refine ⟨ss.take l, by rw [hlen]; exact hb, some x, c, by rw [hlen], ?_⟩
    by_cases h0 : l = 0
    · exact Or.inl (by rw [h0]; rfl)
    · obtain ⟨b, off, spot⟩ := x
      have hspot : spot = none := by simpa [Addr.add] using World.cell?_spot (hcell 0 (by omega))
      subst hspot
      refine Or.inr ⟨b, off, rfl, fun j hj => ?_⟩
      rw [hlen] at hj
      rw [← Go.WideShapes.add_plain, hcell j (by omega)]
      simp [List.getD, List.getElem?_eq_getElem (show j < ss.length by omega)]

set_option maxRecDepth 100000 in
theorem arg_action {H : Type} {enc : TypeId × Value → H} {W : World} {v : Value} {d : DataW H} {p : List MemPlace} {base : Nat}
    (hv : Value.okWide Tryd.prog W .any base 26 v) (h : DataW.Trod enc Tryd.prog W 0 (fun _ => true) true 26 v d p) (hw : ∀ n ∈ d.weights Tryd.prog 26, n ≤ reachBytes) :
    ∃ c i o f cs os, v = Av c i o f ∧ IsTexts W c cs ∧ IsTexts W o os ∧ i.size ≤ maxLen := by
  obtain ⟨c0, c1, c2, c3, y0, y1, y2, y3, m, rfl, rfl, rfl, hy0, hy1, hy2, hy3⟩ := open_agg4 Tryd.underlying26 (by kernel_rfl) cellsA hv h
  have hsz : (DataW.weightsEach Tryd.prog [24, 9, 24, 3] [y0.1, y1.1, y2.1, y3.1]).all (· ≤ reachBytes) = true := by
    rw [List.all_eq_true]
    intro n hn
    have e : (DataW.agg [y0.1, y1.1, y2.1, y3.1]).weights Tryd.prog 26 = DataW.weightsEach Tryd.prog [24, 9, 24, 3] [y0.1, y1.1, y2.1, y3.1] := by
      unfold DataW.weights
      rw [Tryd.underlying26]
      rfl
    simpa using hw n (by rw [e]; exact hn)
  obtain ⟨cs, i0⟩ := field_texts hy0 (arg_len hsz 0 y0.1 rfl rfl)
  obtain ⟨os, i2⟩ := field_texts hy2 (arg_len hsz 2 y2.1 rfl rfl)
  obtain ⟨s, e1, _, hs⟩ := DataW.trod_string Tryd.underlying9 hy1
  obtain ⟨b, e3, _, _⟩ := DataW.trod_int Tryd.underlying3 hy3
  simp at e1 e3
  subst e1 e3
  exact ⟨c0, s, c2, b, cs, os, rfl, i0, i2, hs⟩
end Go.Proofs.YtmjemnmcndajpaaDoor
