/- What Texts answers, errors too. -/
import Derived.Test.YtcfplkfddcblnaaPackT
namespace Go.Proofs.Ytcfplkfddcblnaa
open Go.RowKit Go.Shelf

/-- A slice of these texts that lies in old memory, below block B. -/
def OldTexts (B : Nat) (w : World) (v : Value) (ss : List ByteArray) : Prop :=
  ∃ a cap, v = .slice a ss.length cap ∧ (ss = [] ∨ ∃ g o, a = some ⟨g, o, none⟩ ∧ g < B ∧ ∀ j (hj : j < ss.length), w.cell? ⟨g, o + j, none⟩ = some (.string ss[j]))
theorem old_of (w : World) (v : Value) (ss : List ByteArray) (h : IsTexts w v ss) : OldTexts w.heap.size w v ss := by
  obtain ⟨_, a, cap, rfl, hs⟩ := h
  refine ⟨a, cap, rfl, ?_⟩
  rcases hs with rfl | ⟨g, o, rfl, hc⟩
  · exact Or.inl rfl
  by_cases h0 : ss.length = 0
  · exact Or.inl (List.length_eq_zero_iff.1 h0)
  · exact Or.inr ⟨g, o, rfl, World.block_lt_of_cell? w ⟨g, o + 0, none⟩ (hc 0 (by omega)), hc⟩
theorem texts_below {B : Nat} {w w' : World} {v : Value} {ss : List ByteArray} (h : OldTexts B w v ss) (hb : Below B w w') : OldTexts B w' v ss := by
  obtain ⟨a, cap, rfl, hs⟩ := h
  refine ⟨a, cap, rfl, ?_⟩
  rcases hs with rfl | ⟨g, o, rfl, hg, hc⟩
  · exact Or.inl rfl
  · exact Or.inr ⟨g, o, rfl, hg, fun j hj => (hb.cell (p := ⟨g, o + j, none⟩) hg).trans (hc j hj)⟩
theorem texts_of {B : Nat} {w : World} {v : Value} {ss : List ByteArray} (h : OldTexts B w v ss) (hn : ss.length ≤ 4611686018427387904) : IsTexts w v ss := by
  obtain ⟨a, cap, rfl, hs⟩ := h
  refine ⟨hn, a, cap, rfl, ?_⟩
  rcases hs with rfl | ⟨g, o, rfl, hg, hc⟩
  · exact Or.inl rfl
  · exact Or.inr ⟨g, o, rfl, hc⟩

def okTexts (ss : List ByteArray) : Prop := ss.length ≤ 2000 ∧ ∀ s ∈ ss, s.size ≤ 100000

theorem pkSS_len (ss : List ByteArray) (hs : ∀ s ∈ ss, s.size ≤ 100000) : (pkSS ss).length ≤ ss.length * 100008 := by
  induction ss with
  | nil => simp [pkSS]
  | cons s l ih =>
    have h1 := ih (fun t ht => hs t (List.mem_cons_of_mem _ ht))
    have h2 := hs s (List.mem_cons_self ..)
    have h3 := pk_len8 s.size (by omega)
    have h4 := size_of (s := s) rfl
    simp only [pkSS, pkT, List.length_append, List.length_cons]
    omega
theorem pkTexts_len (ss : List ByteArray) (h : okTexts ss) : (pk ss.length ++ pkSS ss).length ≤ 200016008 := by
  have h1 := pkSS_len ss h.2
  have h2 := pk_len8 ss.length (by have := h.1; omega)
  have h3 := h.1
  rw [List.length_append]
  omega
end Go.Proofs.Ytcfplkfddcblnaa
