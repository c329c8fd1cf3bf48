/- Calls that came in as arguments. -/
import Derived.Test.YtocahjnibdgmoaaLeArT
import Derived.ChangeSame
namespace Go.Proofs.Ytocahjnibdgmoaa
open Go.ChangeShapes Go.WideShapes Go.ChangeAt Go.RowKit Go.Shelf Go.Joins

/-- Calls that came in. -/
structure CallsIn (w : World) (ao : Option Addr) (l : List (Int × Int × Int × ByteArray × Bool)) : Prop where
  at_ : l ≠ [] → ∃ g o, ao = some ⟨g, o, none⟩ ∧ g < w.heap.size ∧ ∀ (k : Nat) (hk : k < l.length), w.cell? ⟨g, o + k * 5, none⟩ = some (.int .i64 (l[k]).1) ∧ w.cell? ⟨g, o + k * 5 + 1, none⟩ = some (.int .i64 (l[k]).2.1) ∧ w.cell? ⟨g, o + k * 5 + 2, none⟩ = some (.int .i64 (l[k]).2.2.1) ∧ w.cell? ⟨g, o + k * 5 + 3, none⟩ = some (.string (l[k]).2.2.2.1) ∧ w.cell? ⟨g, o + k * 5 + 4, none⟩ = some (.bool (l[k]).2.2.2.2)
  sz : ∀ x ∈ l, x.2.2.2.1.size ≤ maxLen
  kd : ∀ x ∈ l, (-9223372036854775808 ≤ x.1 ∧ x.1 ≤ 9223372036854775807) ∧ (-9223372036854775808 ≤ x.2.1 ∧ x.2.1 ≤ 9223372036854775807) ∧ (-9223372036854775808 ≤ x.2.2.1 ∧ x.2.2.1 ≤ 9223372036854775807)
  len : l.length ≤ 4611686018427387904

theorem bytesCl : Try.prog.bytesOf 38 = 48 := by kernel_rfl
theorem cellsCl : Try.prog.cellsOf 38 = 5 := by kernel_rfl
theorem cellsI1 : Try.prog.cellsOf 3 = 1 := by kernel_rfl
theorem cellsS1 : Try.prog.cellsOf 9 = 1 := by kernel_rfl
theorem cellsB1 : Try.prog.cellsOf 4 = 1 := by kernel_rfl

theorem trod_struct5 {H : Type} {enc : TypeId × Value → H} {P : Program} {w : World} {base : Nat} {spare : Nat → Bool} {held : Bool} {t : TypeId} {f0 f1 f2 f3 f4 : Field} {fuel : Nat} {cs : List Value} {x : DataW H × List MemPlace} (ht : P.underlying t = some (.struct #[f0, f1, f2, f3, f4])) (h : DataW.trod enc P w base spare held fuel t cs = some x) :
    ∃ y0 y1 y2 y3 y4 n, DataW.trod enc P w base spare held n f0.type ((cs.drop f0.offset).take (P.cellsOf f0.type)) = some y0 ∧ DataW.trod enc P w base spare held n f1.type ((cs.drop f1.offset).take (P.cellsOf f1.type)) = some y1 ∧ DataW.trod enc P w base spare held n f2.type ((cs.drop f2.offset).take (P.cellsOf f2.type)) = some y2 ∧ DataW.trod enc P w base spare held n f3.type ((cs.drop f3.offset).take (P.cellsOf f3.type)) = some y3 ∧ DataW.trod enc P w base spare held n f4.type ((cs.drop f4.offset).take (P.cellsOf f4.type)) = some y4 := by
  obtain ⟨xs, n, _, rfl, hl, hlen, hf⟩ := DataW.trod_struct ht h
  match xs, hlen with
  | [y0, y1, y2, y3, y4], _ => exact ⟨y0, y1, y2, y3, y4, n, by simpa using hf 0 f0 rfl, by simpa using hf 1 f1 rfl, by simpa using hf 2 f2 rfl, by simpa using hf 3 f3 rfl, by simpa using hf 4 f4 rfl⟩

set_option maxRecDepth 100000 in
theorem arg_call {H : Type} {enc : TypeId × Value → H} {W : World} {cs : List Value} {n : Nat} {y : DataW H × List MemPlace} (hl : cs.length = 5)
    (h : DataW.trod enc Try.prog W 0 (fun _ => true) true n 38 cs = some y) : ∃ x : Int × Int × Int × ByteArray × Bool, cs = [.int .i64 x.1, .int .i64 x.2.1, .int .i64 x.2.2.1, .string x.2.2.2.1, .bool x.2.2.2.2] ∧ x.2.2.2.1.size ≤ maxLen ∧ ((-9223372036854775808 ≤ x.1 ∧ x.1 ≤ 9223372036854775807) ∧ (-9223372036854775808 ≤ x.2.1 ∧ x.2.1 ≤ 9223372036854775807) ∧ (-9223372036854775808 ≤ x.2.2.1 ∧ x.2.2.1 ≤ 9223372036854775807)) := by
  match cs, hl with
  | [c0, c1, c2, c3, c4], _ =>
    obtain ⟨y0, y1, y2, y3, y4, m, h0, h1, h2, h3, h4⟩ := trod_struct5 Try.underlying38 h
    simp [cellsI1, cellsS1, cellsB1] at h0 h1 h2 h3 h4
    obtain ⟨a0, e0, _, z0⟩ := DataW.trod_int Try.underlying3 h0
    obtain ⟨a1, e1, _, z1⟩ := DataW.trod_int Try.underlying3 h1
    obtain ⟨a2, e2, _, z2⟩ := DataW.trod_int Try.underlying3 h2
    obtain ⟨s, e3, _, z3⟩ := DataW.trod_string Try.underlying9 h3
    obtain ⟨b, e4, _⟩ := DataW.trod_bool Try.underlying4 h4
    simp at e0 e1 e2 e3 e4
    subst e0 e1 e2 e3 e4
    exact ⟨(a0, a1, a2, s, b), rfl, z3, int_wf z0, int_wf z1, int_wf z2⟩

set_option maxRecDepth 100000 in
theorem arg_calls {H : Type} {enc : TypeId × Value → H} {W : World} {v : Value} {d : DataW H} {p : List MemPlace} {base : Nat}
    (hv : Value.okWide Try.prog W .any base 24 v) (h : DataW.Trod enc Try.prog W 0 (fun _ => true) true 24 v d p) (hr : ∀ elems sp, d = .slice elems sp → elems.length ≤ 4611686018427387904) : ∃ ao cap l, v = .slice ao l.length cap ∧ CallsIn W ao l := by
  obtain ⟨a, len, cap, rfl⟩ := okWide_slice Try.underlying24 hv
  obtain ⟨fuel, hf⟩ := h
  rcases DataW.trod_slice Try.underlying24 hf with ⟨hcs, _⟩ | ⟨x, l, c, elems, rest, n, _, hcs, hx, _, _, _, hlen, hel, _, _⟩
  · simp [Value.cells] at hcs
    obtain ⟨rfl, rfl, rfl⟩ := hcs
    exact ⟨none, 0, [], rfl, fun h => absurd rfl h, fun x hx => (by cases hx), fun x hx => (by cases hx), by decide⟩
  · simp [Value.cells] at hcs
    obtain ⟨rfl, rfl, rfl⟩ := hcs
    have hb : len ≤ 4611686018427387904 := by
      have := hr _ _ (congrArg Prod.fst hx)
      simp at this
      omega
    have each : ∀ i : Fin len, ∃ nd : Int × Int × Int × ByteArray × Bool, (nd.2.2.2.1.size ≤ maxLen ∧ ((-9223372036854775808 ≤ nd.1 ∧ nd.1 ≤ 9223372036854775807) ∧ (-9223372036854775808 ≤ nd.2.1 ∧ nd.2.1 ≤ 9223372036854775807) ∧ (-9223372036854775808 ≤ nd.2.2.1 ∧ nd.2.2.1 ≤ 9223372036854775807))) ∧ W.cell? (x.add (i.val * 5)) = some (.int .i64 nd.1) ∧ W.cell? ((x.add (i.val * 5)).add 1) = some (.int .i64 nd.2.1) ∧ W.cell? ((x.add (i.val * 5)).add 2) = some (.int .i64 nd.2.2.1) ∧ W.cell? ((x.add (i.val * 5)).add 3) = some (.string nd.2.2.2.1) ∧ W.cell? ((x.add (i.val * 5)).add 4) = some (.bool nd.2.2.2.2) := by
      intro i
      have h1 := hel i.val i.isLt
      rw [cellsCl, List.getElem?_eq_getElem (by omega : i.val < elems.length), Option.bind_eq_some_iff] at h1
      obtain ⟨cs', hc, hy⟩ := h1
      have hs := World.cells?_some hc
      obtain ⟨nd, rfl, z⟩ := arg_call (by simpa using hs.2.1) hy
      refine ⟨nd, z, ?_, ?_, ?_, ?_, ?_⟩
      · have := hs.2.2 0 (by omega); simpa [Addr.add] using this
      · have := hs.2.2 1 (by omega); simpa using this
      · have := hs.2.2 2 (by omega); simpa using this
      · have := hs.2.2 3 (by omega); simpa using this
      · have := hs.2.2 4 (by omega); simpa using this
    obtain ⟨f, hf2⟩ := Classical.axiomOfChoice each
    have hlen2 : (List.ofFn f).length = len := by simp
    refine ⟨some x, cap, List.ofFn f, by rw [hlen2], fun hne => ?_, fun nd hn => ?_, fun nd hn => ?_, by rw [hlen2]; exact hb⟩
    · have h0 : len ≠ 0 := fun e => hne (List.length_eq_zero_iff.1 (hlen2.trans e))
      obtain ⟨b, off, spot⟩ := x
      have c0 := (hf2 ⟨0, by omega⟩).2.1
      have hspot : spot = none := by simpa [Addr.add] using World.cell?_spot c0
      subst hspot
      refine ⟨b, off, rfl, by simpa [Addr.add] using World.block_lt_of_cell? W _ c0, fun j hj => ?_⟩
      rw [hlen2] at hj
      rw [List.getElem_ofFn]
      have k := (hf2 ⟨j, hj⟩).2
      rw [Addr.add_lit, Addr.add_lit, Addr.add_lit, Addr.add_lit, Addr.add_lit] at k
      exact k
    · obtain ⟨j, hj, rfl⟩ := List.getElem_of_mem hn
      rw [List.getElem_ofFn]
      exact (hf2 _).1.1
    · obtain ⟨j, hj, rfl⟩ := List.getElem_of_mem hn
      rw [List.getElem_ofFn]
      exact (hf2 _).1.2

theorem arg_lenC {H : Type} {ts : List TypeId} {ds : List (DataW H)} (hsz : (DataW.weightsEach Try.prog ts ds).all (· ≤ reachBytes) = true) (j : Nat) (d : DataW H) (ht : ts[j]? = some 24) (hd : ds[j]? = some d) :
    ∀ elems sp, d = .slice elems sp → elems.length ≤ 4611686018427387904 := fun elems sp he => by
  have h1 := sized_slice hsz (j := j) (t := 24) ht (by rw [hd, he]) Try.underlying24
  have h2 := reachBytes_lt
  rw [bytesCl] at h1
  omega
end Go.Proofs.Ytocahjnibdgmoaa
