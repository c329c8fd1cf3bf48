/- Lists of costs that came in as an argument. -/
import Derived.Test.YtfddhdpnoliamaaQuFw
import Derived.Test.YtfddhdpnoliamaaQuArg
namespace Go.Proofs.Ytfddhdpnoliamaa
open Go.ChangeShapes Go.WideShapes Go.ChangeAt Go.RowKit Go.Shelf

theorem bytesL : Try.prog.bytesOf 29 = 24 := by kernel_rfl
theorem cellsL : Try.prog.cellsOf 29 = 1 := by kernel_rfl

set_option maxRecDepth 100000 in
theorem arg_row {H : Type} {enc : TypeId × Value → H} {W : World} {cs : List Value} {n : Nat} {y : DataW H × List MemPlace}
    (h : DataW.trod enc Try.prog W 0 (fun _ => true) true n 29 cs = some y) : ∃ nd : Option Addr × Nat × List Int, cs = [.slice nd.1 nd.2.2.length nd.2.1] ∧ IntsR W nd.1 nd.2.2 := by
  rcases open_ints Try.underlying29 Try.underlying3 (by kernel_rfl) h with ⟨hcs, _⟩ | ⟨x, l, c, zs, hcs, _, hl, hm, hz, hx, hcell, hws⟩
  · exact ⟨(none, 0, []), hcs, fun h => absurd rfl h, fun x hx => (by cases hx)⟩
  · have hz' : zs.length = c := by simpa using hz
    have hlen : (zs.take l).length = l := by rw [List.length_take]; omega
    refine ⟨(some x, c, zs.take l), by rw [hlen]; exact hcs, fun h0 => ?_, fun y hy => int_wf (hws y (List.mem_of_mem_take hy))⟩
    have hpos : 0 < l := by
      rcases Nat.eq_zero_or_pos l with e | e
      · exfalso; apply h0; show zs.take l = []; rw [e]; rfl
      · exact e
    obtain ⟨b, off, spot⟩ := x
    have hspot : spot = none := by simpa [Addr.add] using World.cell?_spot (hcell 0 (by omega))
    subst hspot
    have hc0 : ∀ j, j < l → W.cell? ⟨b, off + j, none⟩ = some (.int .i64 (zs.getD j 0)) := fun j hj => by rw [← Go.WideShapes.add_plain]; exact hcell j (by omega)
    refine ⟨b, off, rfl, World.block_lt_of_cell? W _ (hc0 0 hpos), fun k hk => ?_⟩
    have hk2 : k < l := by rw [← hlen]; exact hk
    rw [hc0 k hk2]
    simp [List.getD, List.getElem?_eq_getElem (show k < zs.length by omega)]

set_option maxRecDepth 100000 in
theorem arg_costs {H : Type} {enc : TypeId × Value → H} {W : World} {v : Value} {d : DataW H} {p : List MemPlace} {base : Nat}
    (hv : Value.okWide Try.prog W .any base 46 v) (h : DataW.Trod enc Try.prog W 0 (fun _ => true) true 46 v d p) (hr : ∀ elems sp, d = .slice elems sp → elems.length ≤ 4611686018427387904) : ∃ ao cap C, v = .slice ao C.length cap ∧ CostsIn W ao C := by
  obtain ⟨a, len, cap, rfl⟩ := okWide_slice Try.underlying46 hv
  obtain ⟨fuel, hf⟩ := h
  rcases DataW.trod_slice Try.underlying46 hf with ⟨hcs, _⟩ | ⟨x, l, c, elems, rest, n, _, hcs, hx, _, _, _, hlen, hel, _, _⟩
  · simp [Value.cells] at hcs
    obtain ⟨rfl, rfl, rfl⟩ := hcs
    exact ⟨none, 0, [], rfl, fun h => absurd rfl h, by decide⟩
  · simp [Value.cells] at hcs
    obtain ⟨rfl, rfl, rfl⟩ := hcs
    have hb : len ≤ 4611686018427387904 := by
      have := hr _ _ (congrArg Prod.fst hx)
      simp at this
      omega
    have each : ∀ i : Fin len, ∃ nd : Option Addr × Nat × List Int, W.cell? (x.add (i.val * 1)) = some (.slice nd.1 nd.2.2.length nd.2.1) ∧ IntsR W nd.1 nd.2.2 := by
      intro i
      have h1 := hel i.val i.isLt
      rw [cellsL, List.getElem?_eq_getElem (by omega : i.val < elems.length), Option.bind_eq_some_iff] at h1
      obtain ⟨cs', hc, hy⟩ := h1
      have hs := World.cells?_some hc
      obtain ⟨nd, rfl, z⟩ := arg_row hy
      refine ⟨nd, ?_, z⟩
      have := hs.2.2 0 (by omega)
      simpa [Addr.add] using this
    obtain ⟨f, hf2⟩ := Classical.axiomOfChoice each
    have hlen2 : (List.ofFn fun i => (f i).2.2).length = len := by simp
    refine ⟨some x, cap, List.ofFn fun i => (f i).2.2, by rw [hlen2], fun hne => ?_, by rw [hlen2]; exact hb⟩
    have h0 : len ≠ 0 := fun e => hne (List.length_eq_zero_iff.1 (hlen2.trans e))
    obtain ⟨b, off, spot⟩ := x
    have c0 := (hf2 ⟨0, by omega⟩).1
    have hspot : spot = none := by simpa [Addr.add] using World.cell?_spot c0
    subst hspot
    refine ⟨b, off, rfl, by simpa [Addr.add] using World.block_lt_of_cell? W _ c0, fun t ht => ?_⟩
    rw [hlen2] at ht
    rw [List.getElem_ofFn]
    obtain ⟨k1, k2⟩ := hf2 ⟨t, ht⟩
    rw [Addr.add_lit, Nat.mul_one] at k1
    exact ⟨_, _, k1, k2⟩

theorem arg_lenC {H : Type} {ts : List TypeId} {ds : List (DataW H)} (hsz : (DataW.weightsEach Try.prog ts ds).all (· ≤ reachBytes) = true) (j : Nat) (d : DataW H) (ht : ts[j]? = some 46) (hd : ds[j]? = some d) :
    ∀ elems sp, d = .slice elems sp → elems.length ≤ 4611686018427387904 := fun elems sp he => by
  have h1 := sized_slice hsz (j := j) (t := 46) ht (by rw [hd, he]) Try.underlying46
  have h2 := reachBytes_lt
  rw [bytesL] at h1
  omega
end Go.Proofs.Ytfddhdpnoliamaa
