/- Moves that came in as arguments. -/
import Derived.Test.YtfddhdpnoliamaaQuPw
import Derived.Test.YtfddhdpnoliamaaQuArJ
import Derived.ChangeSame
namespace Go.Proofs.Ytfddhdpnoliamaa
open Go.ChangeShapes Go.WideShapes Go.ChangeAt Go.RowKit Go.Shelf Go.Joins
open Go.Deep (trod_struct3)

theorem bytesM : Try.prog.bytesOf 36 = 40 := by kernel_rfl
theorem cellsM : Try.prog.cellsOf 36 = 4 := by kernel_rfl

set_option maxRecDepth 100000 in
theorem arg_move {H : Type} {enc : TypeId × Value → H} {W : World} {cs : List Value} {n : Nat} {y : DataW H × List MemPlace} (hl : cs.length = 4)
    (h : DataW.trod enc Try.prog W 0 (fun _ => true) true n 36 cs = some y) : ∃ nd : Int × Int × ByteArray × Int, cs = [.int .i64 nd.1, .int .i64 nd.2.1, .string nd.2.2.1, .int .i64 nd.2.2.2] ∧ nd.2.2.1.size ≤ maxLen ∧ (-9223372036854775808 ≤ nd.1 ∧ nd.1 ≤ 9223372036854775807) := by
  match cs, hl with
  | [c0, c1, c2, c3], _ =>
    obtain ⟨y0, y1, m, hx, _, h0, h1⟩ := trod_struct2 Try.underlying36 h
    have k2 : Try.prog.cellsOf 3 = 1 := by kernel_rfl
    simp [k2, cellsJ] at h0 h1
    obtain ⟨a, e0, _, z0⟩ := DataW.trod_int Try.underlying3 h0
    obtain ⟨nd, e1, z1⟩ := arg_job (cs := [c1, c2, c3]) rfl h1
    simp at e0 e1
    obtain ⟨e1, e2, e3⟩ := e1
    subst e0 e1 e2 e3
    have z2 : decide (-9223372036854775808 ≤ a) = true ∧ decide (a ≤ 9223372036854775807) = true := by simpa [Lit.wf, IntKind.min, IntKind.max, IntKind.signed, IntKind.bits] using z0
    exact ⟨(a, nd), rfl, z1, of_decide_eq_true z2.1, of_decide_eq_true z2.2⟩

set_option maxRecDepth 100000 in
theorem arg_moves {H : Type} {enc : TypeId × Value → H} {W : World} {v : Value} {d : DataW H} {p : List MemPlace} {base : Nat}
    (hv : Value.okWide Try.prog W .any base 22 v) (h : DataW.Trod enc Try.prog W 0 (fun _ => true) true 22 v d p) (hr : ∀ elems sp, d = .slice elems sp → elems.length ≤ 4611686018427387904) : ∃ ao cap l, v = .slice ao l.length cap ∧ MovesIn W ao l := by
  obtain ⟨a, len, cap, rfl⟩ := okWide_slice Try.underlying22 hv
  obtain ⟨fuel, hf⟩ := h
  rcases DataW.trod_slice Try.underlying22 hf with ⟨hcs, _⟩ | ⟨x, l, c, elems, rest, n, _, hcs, hx, _, _, _, hlen, hel, _, _⟩
  · simp [Value.cells] at hcs
    obtain ⟨rfl, rfl, rfl⟩ := hcs
    exact ⟨none, 0, [], rfl, fun h => absurd rfl h, fun x hx => (by cases hx), fun x hx => (by cases hx), by decide⟩
  · simp [Value.cells] at hcs
    obtain ⟨rfl, rfl, rfl⟩ := hcs
    have hb : len ≤ 4611686018427387904 := by
      have := hr _ _ (congrArg Prod.fst hx)
      simp at this
      omega
    have each : ∀ i : Fin len, ∃ nd : Int × Int × ByteArray × Int, (nd.2.2.1.size ≤ maxLen ∧ (-9223372036854775808 ≤ nd.1 ∧ nd.1 ≤ 9223372036854775807)) ∧ W.cell? (x.add (i.val * 4)) = some (.int .i64 nd.1) ∧ W.cell? ((x.add (i.val * 4)).add 1) = some (.int .i64 nd.2.1) ∧ W.cell? ((x.add (i.val * 4)).add 2) = some (.string nd.2.2.1) ∧ W.cell? ((x.add (i.val * 4)).add 3) = some (.int .i64 nd.2.2.2) := by
      intro i
      have h1 := hel i.val i.isLt
      rw [cellsM, List.getElem?_eq_getElem (by omega : i.val < elems.length), Option.bind_eq_some_iff] at h1
      obtain ⟨cs', hc, hy⟩ := h1
      have hs := World.cells?_some hc
      obtain ⟨nd, rfl, z⟩ := arg_move (by simpa using hs.2.1) hy
      refine ⟨nd, z, ?_, ?_, ?_, ?_⟩
      · have := hs.2.2 0 (by omega); simpa [Addr.add] using this
      · have := hs.2.2 1 (by omega); simpa using this
      · have := hs.2.2 2 (by omega); simpa using this
      · have := hs.2.2 3 (by omega); simpa using this
    obtain ⟨f, hf2⟩ := Classical.axiomOfChoice each
    have hlen2 : (List.ofFn f).length = len := by simp
    refine ⟨some x, cap, List.ofFn f, by rw [hlen2], fun hne => ?_, fun nd hn => ?_, fun nd hn => ?_, by rw [hlen2]; exact hb⟩
    · have h0 : len ≠ 0 := fun e => hne (List.length_eq_zero_iff.1 (hlen2.trans e))
      obtain ⟨b, off, spot⟩ := x
      have c0 := (hf2 ⟨0, by omega⟩).2.1
      have hspot : spot = none := by simpa [Addr.add] using World.cell?_spot c0
      subst hspot
      refine ⟨b, off, rfl, by simpa [Addr.add] using World.block_lt_of_cell? W _ c0, fun j hj => ?_⟩
      rw [hlen2] at hj
      rw [List.getElem_ofFn]
      have k := (hf2 ⟨j, hj⟩).2
      rw [Addr.add_lit, Addr.add_lit, Addr.add_lit, Addr.add_lit] at k
      exact k
    · obtain ⟨j, hj, rfl⟩ := List.getElem_of_mem hn
      rw [List.getElem_ofFn]
      exact (hf2 _).1.1
    · obtain ⟨j, hj, rfl⟩ := List.getElem_of_mem hn
      rw [List.getElem_ofFn]
      exact (hf2 _).1.2

theorem arg_lenM {H : Type} {ts : List TypeId} {ds : List (DataW H)} (hsz : (DataW.weightsEach Try.prog ts ds).all (· ≤ reachBytes) = true) (j : Nat) (d : DataW H) (ht : ts[j]? = some 22) (hd : ds[j]? = some d) :
    ∀ elems sp, d = .slice elems sp → elems.length ≤ 4611686018427387904 := fun elems sp he => by
  have h1 := sized_slice hsz (j := j) (t := 22) ht (by rw [hd, he]) Try.underlying22
  have h2 := reachBytes_lt
  rw [bytesM] at h1
  omega
end Go.Proofs.Ytfddhdpnoliamaa
