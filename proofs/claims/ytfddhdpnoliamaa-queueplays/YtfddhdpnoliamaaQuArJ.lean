/- Jobs and texts that came in as arguments. -/
import Derived.Test.YtfddhdpnoliamaaQuDw
import Derived.ProofKit
import Derived.OpenShut
import Derived.ShutString
import Derived.ChangeOld
import Derived.SliceStrings
import Derived.ChangeSlices
import Derived.Carry
import Derived.Lib.SmallJoins
namespace Go.Proofs.Ytfddhdpnoliamaa
open Go.ChangeShapes Go.WideShapes Go.ChangeAt Go.RowKit Go.Shelf Go.Joins
open Go.Deep (trod_struct3)

theorem own : ownKnob Try.prog.godebug = none := by kernel_rfl
theorem laidOut : laidOutB Try.prog = true := by kernel_rfl
theorem bytesS : Try.prog.bytesOf 9 = 16 := by kernel_rfl
theorem bytesJ : Try.prog.bytesOf 34 = 32 := by kernel_rfl
theorem cellsJ : Try.prog.cellsOf 34 = 3 := by kernel_rfl

set_option maxRecDepth 100000 in
theorem arg_job {H : Type} {enc : TypeId × Value → H} {W : World} {cs : List Value} {n : Nat} {y : DataW H × List MemPlace} (hl : cs.length = 3)
    (h : DataW.trod enc Try.prog W 0 (fun _ => true) true n 34 cs = some y) : ∃ nd : Int × ByteArray × Int, cs = [.int .i64 nd.1, .string nd.2.1, .int .i64 nd.2.2] ∧ nd.2.1.size ≤ maxLen := by
  match cs, hl with
  | [c0, c1, c2], _ =>
    obtain ⟨y0, y1, y2, m, hx, _, h0, h1, h2⟩ := trod_struct3 Try.underlying34 h
    have k1 : Try.prog.cellsOf 9 = 1 := by kernel_rfl
    have k2 : Try.prog.cellsOf 3 = 1 := by kernel_rfl
    simp [k1, k2] at h0 h1 h2
    obtain ⟨a, e0, _, _⟩ := DataW.trod_int Try.underlying3 h0
    obtain ⟨s, e1, _, z1⟩ := DataW.trod_string Try.underlying9 h1
    obtain ⟨b, e2, _, _⟩ := DataW.trod_int Try.underlying3 h2
    simp at e0 e1 e2
    subst e0 e1 e2
    exact ⟨(a, s, b), rfl, z1⟩

set_option maxRecDepth 100000 in
theorem arg_jobs {H : Type} {enc : TypeId × Value → H} {W : World} {v : Value} {d : DataW H} {p : List MemPlace} {base : Nat}
    (hv : Value.okWide Try.prog W .any base 30 v) (h : DataW.Trod enc Try.prog W 0 (fun _ => true) true 30 v d p) (hr : ∀ elems sp, d = .slice elems sp → elems.length ≤ 4611686018427387904) : ∃ ao cap l, v = .slice ao l.length cap ∧ JobsIn W ao l := by
  obtain ⟨a, len, cap, rfl⟩ := okWide_slice Try.underlying30 hv
  obtain ⟨fuel, hf⟩ := h
  rcases DataW.trod_slice Try.underlying30 hf with ⟨hcs, _⟩ | ⟨x, l, c, elems, rest, n, _, hcs, hx, _, _, _, hlen, hel, _, _⟩
  · simp [Value.cells] at hcs
    obtain ⟨rfl, rfl, rfl⟩ := hcs
    exact ⟨none, 0, [], rfl, fun h => absurd rfl h, fun x hx => (by cases hx), by decide⟩
  · simp [Value.cells] at hcs
    obtain ⟨rfl, rfl, rfl⟩ := hcs
    have hb : len ≤ 4611686018427387904 := by
      have := hr _ _ (congrArg Prod.fst hx)
      simp at this
      omega
    have each : ∀ i : Fin len, ∃ nd : Int × ByteArray × Int, nd.2.1.size ≤ maxLen ∧ W.cell? (x.add (i.val * 3)) = some (.int .i64 nd.1) ∧ W.cell? ((x.add (i.val * 3)).add 1) = some (.string nd.2.1) ∧ W.cell? ((x.add (i.val * 3)).add 2) = some (.int .i64 nd.2.2) := by
      intro i
      have h1 := hel i.val i.isLt
      rw [cellsJ, List.getElem?_eq_getElem (by omega : i.val < elems.length), Option.bind_eq_some_iff] at h1
      obtain ⟨cs', hc, hy⟩ := h1
      have hs := World.cells?_some hc
      obtain ⟨nd, rfl, z⟩ := arg_job (by simpa using hs.2.1) hy
      refine ⟨nd, z, ?_, ?_, ?_⟩
      · have := hs.2.2 0 (by omega); simpa [Addr.add] using this
      · have := hs.2.2 1 (by omega); simpa using this
      · have := hs.2.2 2 (by omega); simpa using this
    obtain ⟨f, hf2⟩ := Classical.axiomOfChoice each
    have hlen2 : (List.ofFn f).length = len := by simp
    refine ⟨some x, cap, List.ofFn f, by rw [hlen2], fun hne => ?_, fun nd hn => ?_, by rw [hlen2]; exact hb⟩
    · have h0 : len ≠ 0 := fun e => hne (List.length_eq_zero_iff.1 (hlen2.trans e))
      obtain ⟨b, off, spot⟩ := x
      have c0 := (hf2 ⟨0, by omega⟩).2.1
      have hspot : spot = none := by simpa [Addr.add] using World.cell?_spot c0
      subst hspot
      refine ⟨b, off, rfl, by simpa [Addr.add] using World.block_lt_of_cell? W _ c0, fun j hj => ?_⟩
      rw [hlen2] at hj
      rw [List.getElem_ofFn]
      have k := (hf2 ⟨j, hj⟩).2
      rw [Addr.add_lit, Addr.add_lit, Addr.add_lit] at k
      exact k
    · obtain ⟨j, hj, rfl⟩ := List.getElem_of_mem hn
      rw [List.getElem_ofFn]
      exact (hf2 _).1

set_option maxRecDepth 100000 in
theorem arg_texts {H : Type} {enc : TypeId × Value → H} {W : World} {v : Value} {d : DataW H} {p : List MemPlace} {base : Nat}
    (hv : Value.okWide Try.prog W .any base 43 v) (h : DataW.Trod enc Try.prog W 0 (fun _ => true) true 43 v d p) (hr : ∀ elems sp, d = .slice elems sp → elems.length ≤ 4611686018427387904) : ∃ ao cap l, v = .slice ao l.length cap ∧ TextsIn W ao l := by
  obtain ⟨a, len, cap, rfl⟩ := okWide_slice Try.underlying43 hv
  obtain ⟨fuel, hf⟩ := h
  rcases open_strings Try.underlying43 Try.underlying9 (by kernel_rfl) hf with ⟨hcs, _⟩ | ⟨x, l, c, ss, hcs, _, hl, hm, hz, hx, hcell, hws⟩
  · simp [Value.cells] at hcs
    obtain ⟨rfl, rfl, rfl⟩ := hcs
    exact ⟨none, 0, [], rfl, fun h => absurd rfl h, by decide⟩
  · simp [Value.cells] at hcs
    obtain ⟨rfl, rfl, rfl⟩ := hcs
    have hz' : ss.length = cap := by simpa using hz
    have hlen : (ss.take len).length = len := by rw [List.length_take]; omega
    have hb : len ≤ 4611686018427387904 := by
      have := hr _ _ (congrArg Prod.fst hx)
      simp [Go.ChangeShapes.strs] at this
      omega
    refine ⟨some x, cap, ss.take len, by rw [hlen], fun hne => ?_, by rw [hlen]; exact hb⟩
    have h0 : 0 < len := by
      rcases Nat.eq_zero_or_pos len with e | e
      · exfalso; apply hne; rw [e]; rfl
      · exact e
    obtain ⟨b, off, spot⟩ := x
    have hspot : spot = none := by simpa [Addr.add] using World.cell?_spot (hcell 0 (by omega))
    subst hspot
    have hc0 : ∀ j, j < len → W.cell? ⟨b, off + j, none⟩ = some (.string (ss.getD j ByteArray.empty)) := fun j hj => by rw [← Go.WideShapes.add_plain, hcell j (by omega)]
    refine ⟨b, off, rfl, World.block_lt_of_cell? W _ (hc0 0 h0), fun j hj => ?_⟩
    rw [hlen] at hj
    rw [hc0 j hj]
    simp [List.getD, List.getElem?_eq_getElem (show j < ss.length by omega)]

theorem arg_lenS {H : Type} {ts : List TypeId} {ds : List (DataW H)} (hsz : (DataW.weightsEach Try.prog ts ds).all (· ≤ reachBytes) = true) (j : Nat) (d : DataW H) (ht : ts[j]? = some 43) (hd : ds[j]? = some d) :
    ∀ elems sp, d = .slice elems sp → elems.length ≤ 4611686018427387904 := fun elems sp he => by
  have h1 := sized_slice hsz (j := j) (t := 43) ht (by rw [hd, he]) Try.underlying43
  have h2 := reachBytes_lt
  rw [bytesS] at h1
  omega
theorem arg_lenJ {H : Type} {ts : List TypeId} {ds : List (DataW H)} (hsz : (DataW.weightsEach Try.prog ts ds).all (· ≤ reachBytes) = true) (j : Nat) (d : DataW H) (ht : ts[j]? = some 30) (hd : ds[j]? = some d) :
    ∀ elems sp, d = .slice elems sp → elems.length ≤ 4611686018427387904 := fun elems sp he => by
  have h1 := sized_slice hsz (j := j) (t := 30) ht (by rw [hd, he]) Try.underlying30
  have h2 := reachBytes_lt
  rw [bytesJ] at h1
  omega
end Go.Proofs.Ytfddhdpnoliamaa
