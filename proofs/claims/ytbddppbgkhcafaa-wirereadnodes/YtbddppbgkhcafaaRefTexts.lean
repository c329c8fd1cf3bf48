/- What the document's own CheckList, PackText and PackTexts answer. -/
import Derived.Test.YtbddppbgkhcafaaPackN
import Derived.Test.YtbddppbgkhcafaaPackTs
namespace Go.Proofs.Ytbddppbgkhcafaa
open Go.RowKit Go.Shelf

def longIn (ss : List ByteArray) : Prop := ∃ s ∈ ss, 100000 < s.size
def shortAll (ss : List ByteArray) : Prop := ∀ s ∈ ss, s.size ≤ 100000
def okList (m : Nat) (ss : List ByteArray) : Prop := ss.length ≤ m ∧ ∀ s ∈ ss, s.size ≤ 100000

theorem addl (l : List UInt8) (b : ByteArray) (h : l.length + b.size ≤ 9223372036854775807) (W : World) : (Op.stringOp .add ⟨l.toArray⟩ b).run Try.prog W = .ok (.string ⟨(l ++ b.data.toList).toArray⟩) W := by
  refine (run_string_add_sum (w := W) _ _ (by rw [show (⟨l.toArray⟩ : ByteArray).size = l.length from size_of rfl]; exact h)).trans ?_
  have hb : b = ⟨b.data.toList.toArray⟩ := bytes_eq rfl
  rw [hb, ByteArray.mk_append_mk]
theorem addll (l m : List UInt8) (h : l.length + m.length ≤ 9223372036854775807) (W : World) : (Op.stringOp .add ⟨l.toArray⟩ ⟨m.toArray⟩).run Try.prog W = .ok (.string ⟨(l ++ m).toArray⟩) W := by
  have := addl l ⟨m.toArray⟩ (by rw [show (⟨m.toArray⟩ : ByteArray).size = m.length from size_of rfl]; exact h) W
  simpa using this

set_option maxHeartbeats 1000000 in
theorem packtext_any (s : ByteArray) (w : World) (hs : s.size ≤ 9007199254740991) :
    Calls Try.prog 18 #[.string s] w fun e w' => e = .returned (.string ⟨(pkT s).toArray⟩) ∧ Below w.heap.size w w' := by
  have h8 := pk_len8 s.size hs
  have hadd : ∀ W : World, (Op.stringOp .add ⟨(pk s.size).toArray⟩ s).run Try.prog W = .ok (.string ⟨(pkT s).toArray⟩) W := addl (pk s.size) s (by omega)
  clear h8
  go_enter Try.func18, Try.ntmps18
  go_wp2_with fail
  refine (packn_any s.size s.size w (Nat.le_refl _) hs).mono ?_
  rintro e w1 ⟨rfl, hb1⟩
  go_wp2
  go_ret
  exact ⟨rfl, hb1⟩
end Go.Proofs.Ytbddppbgkhcafaa
