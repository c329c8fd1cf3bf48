/- A result that came in as an argument. -/
import Derived.Test.YtligalcphlfmcadPackR
import Derived.ProofKit
import Derived.OpenShut
import Derived.ShutString
import Derived.ChangeOld
import Derived.Below
import Derived.Lib.SmallJoins
namespace Go.Proofs.Ytligalcphlfmcad
open Go.ChangeShapes Go.WideShapes Go.ChangeAt Go.RowKit Go.Shelf Go.Joins

theorem ar_own : ownKnob Try.prog.godebug = none := by kernel_rfl
theorem ar_laidOut : laidOutB Try.prog = true := by kernel_rfl
theorem cellsR : Try.prog.cellsOf 23 = 3 := by kernel_rfl
set_option maxRecDepth 100000 in
theorem arg_result {H : Type} {enc : TypeId × Value → H} {W : World} {v : Value} {d : DataW H} {p : List MemPlace} {base : Nat}
    (hv : Value.okWide Try.prog W .any base 23 v) (h : DataW.Trod enc Try.prog W 0 (fun _ => true) true 23 v d p) : ∃ c s e, v = Rv c s e ∧ s.size ≤ maxLen := by
  obtain ⟨c0, c1, c2, y0, y1, y2, m, rfl, rfl, rfl, hy0, hy1, hy2⟩ := open_agg3 Try.underlying23 (by kernel_rfl) cellsR hv h
  obtain ⟨a, e0, _, _⟩ := DataW.trod_int Try.underlying3 hy0
  obtain ⟨s, e1, _, hs⟩ := DataW.trod_string Try.underlying9 hy1
  obtain ⟨b, e2, _, _⟩ := DataW.trod_int Try.underlying3 hy2
  simp at e0 e1 e2
  subst e0 e1 e2
  exact ⟨a, s, b, rfl, hs⟩
theorem okR_nat {c d : Int} {s : ByteArray} (h : okR c s d) : ∃ c' d' : Nat, c = c' ∧ d = d' := by
  have h1 := noN_false h.1
  have h2 := noN_false h.2.1
  exact ⟨c.toNat, d.toNat, by omega, by omega⟩
end Go.Proofs.Ytligalcphlfmcad
