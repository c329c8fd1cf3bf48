/- Nodes that came in, and nodes that were read: what the laws of nodes lean on. -/
import Derived.Test.YtbddppbgkhcafaaArgD
import Derived.Test.YtbddppbgkhcafaaReadD
import Derived.Test.YtbddppbgkhcafaaSame
import Derived.Test.YtbddppbgkhcafaaRefD
namespace Go.Proofs.Ytbddppbgkhcafaa
open Go.ChangeShapes Go.WideShapes Go.ChangeAt Go.RowKit Go.Shelf
open Go.ChangeMaps (open_string shut_string)

theorem own : ownKnob Try.prog.godebug = none := by kernel_rfl
theorem laidOut : laidOutB Try.prog = true := by kernel_rfl
theorem bytesD : Try.prog.bytesOf 41 = 40 := by kernel_rfl

theorem oldN_up {B B' : Nat} {w : World} {v : Value} {ns : List Nd} (h : OldNodes B w v ns) (hb : B ≤ B') : OldNodes B' w v ns := by
  obtain ⟨a, cap, e, hs⟩ := h
  refine ⟨a, cap, e, ?_⟩
  rcases hs with h | ⟨g, o, h1, h2, h3⟩
  · exact Or.inl h
  · exact Or.inr ⟨g, o, h1, Nat.lt_of_lt_of_le h2 hb, h3⟩

theorem ReadNodes_ns (ns : List Nd) (w : World) (hok : neC ns = 0) :
    Calls Try.prog 10 #[.string ⟨(pk ns.length ++ pkDD ns).toArray⟩] w fun e w' => ∃ v, e = .returned (.tuple #[v, .int .i64 0]) ∧ OldNodes w'.heap.size w' v ns ∧ Below w.heap.size w w' := by
  have hd := (neC_ok hok).1
  have hl := pkDs_len ns hd
  refine (ReadNodes_pk _ w ns (by rw [show (⟨(pk ns.length ++ pkDD ns).toArray⟩ : ByteArray).size = (pk ns.length ++ pkDD ns).length from size_of rfl]; unfold maxLen; omega) hok rfl).mono ?_
  rintro e w' ⟨v, rfl, ho, hb⟩
  exact ⟨v, rfl, oldN_of w' v ns (own_nodes ho hd.1 fun n hn => (hd.2 n hn).w), hb⟩
end Go.Proofs.Ytbddppbgkhcafaa
