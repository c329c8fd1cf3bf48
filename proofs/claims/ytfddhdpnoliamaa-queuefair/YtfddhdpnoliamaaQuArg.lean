/- Ints that came in as an argument. -/
import Derived.Test.YtfddhdpnoliamaaQuL
import Derived.ProofKit
import Derived.OpenShut
import Derived.ShutString
import Derived.ChangeOld
import Derived.ChangeSlices
import Derived.Carry
namespace Go.Proofs.Ytfddhdpnoliamaa
open Go.ChangeShapes Go.WideShapes Go.ChangeAt Go.RowKit Go.Shelf

theorem own : ownKnob Try.prog.godebug = none := by kernel_rfl
theorem laidOut : laidOutB Try.prog = true := by kernel_rfl
theorem bytesI : Try.prog.bytesOf 3 = 8 := by kernel_rfl
theorem int_wf {n : Int} (h : (Lit.int .i64 n).wf = true) : -9223372036854775808 ≤ n ∧ n ≤ 9223372036854775807 := by simpa [Lit.wf, IntKind.min, IntKind.max, IntKind.signed, IntKind.bits] using h
set_option maxRecDepth 100000 in
theorem arg_ints {H : Type} {enc : TypeId × Value → H} {W : World} {v : Value} {d : DataW H} {p : List MemPlace} {base : Nat}
    (hv : Value.okWide Try.prog W .any base 29 v) (h : DataW.Trod enc Try.prog W 0 (fun _ => true) true 29 v d p) (hr : ∀ elems sp, d = .slice elems sp → elems.length ≤ 17592186044416) : ∃ ao cap l, v = .slice ao l.length cap ∧ IntsIn W ao l := by
  obtain ⟨a, len, cap, rfl⟩ := okWide_slice Try.underlying29 hv
  obtain ⟨fuel, hf⟩ := h
  rcases open_ints Try.underlying29 Try.underlying3 (by kernel_rfl) hf with ⟨hcs, _⟩ | ⟨x, l, c, zs, hcs, _, hl, hm, hz, hx, hcell, hws⟩
  · simp [Value.cells] at hcs
    obtain ⟨rfl, rfl, rfl⟩ := hcs
    exact ⟨none, 0, [], rfl, fun h => absurd rfl h, fun x hx => (by cases hx), by decide⟩
  · simp [Value.cells] at hcs
    obtain ⟨rfl, rfl, rfl⟩ := hcs
    have hz' : zs.length = cap := by simpa using hz
    have hlen : (zs.take len).length = len := by rw [List.length_take]; omega
    have hb : len ≤ 17592186044416 := by
      have := hr _ _ (congrArg Prod.fst hx)
      simp [Go.ChangeShapes.lits] at this
      omega
    refine ⟨some x, cap, zs.take len, by rw [hlen], fun h0 => ?_, fun y hy => int_wf (hws y (List.mem_of_mem_take hy)), by rw [hlen]; exact hb⟩
    have hpos : 0 < len := by
      rcases Nat.eq_zero_or_pos len with e | e
      · exfalso; apply h0; rw [e]; rfl
      · exact e
    obtain ⟨b, off, spot⟩ := x
    have hspot : spot = none := by simpa [Addr.add] using World.cell?_spot (hcell 0 (by omega))
    subst hspot
    have hc0 : ∀ j, j < len → W.cell? ⟨b, off + j, none⟩ = some (.int .i64 (zs.getD j 0)) := fun j hj => by rw [← Go.WideShapes.add_plain]; exact hcell j (by omega)
    refine ⟨b, off, rfl, World.block_lt_of_cell? W _ (hc0 0 hpos), fun k hk => ?_⟩
    rw [hlen] at hk
    rw [hc0 k hk]
    simp [List.getD, List.getElem?_eq_getElem (show k < zs.length by omega)]

theorem arg_lenI {H : Type} {ts : List TypeId} {ds : List (DataW H)} (hsz : (DataW.weightsEach Try.prog ts ds).all (· ≤ reachBytes) = true) (j : Nat) (d : DataW H) (ht : ts[j]? = some 29) (hd : ds[j]? = some d) :
    ∀ elems sp, d = .slice elems sp → elems.length ≤ 17592186044416 := fun elems sp he => by
  have h1 := sized_slice hsz (j := j) (t := 29) ht (by rw [hd, he]) Try.underlying29
  have h2 := reachBytes_lt
  rw [bytesI] at h1
  omega
end Go.Proofs.Ytfddhdpnoliamaa
