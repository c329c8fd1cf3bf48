/- The words of a line, in memory. -/
import Derived.Test.YtapiedeekbfpnaaGreatDoorSbIM
import Derived.Test.YtapiedeekbfpnaaGreatDoorTa7
namespace Go.Proofs.YtapiedeekbfpnaaGreatDoor
open Go.RowKit Go.Shelf Go.Sort

/-- Words lie in a block. -/
def WdAt (w : World) (g : Nat) (ws : List (List UInt8)) : Prop := ∀ j, j < ws.length → w.cell? ⟨g, j, none⟩ = some (.string (bA (ws.getD j [])))
theorem WordsC (s : ByteArray) (W : World) (hs : s.size ≤ 100000) :
    Calls Tryz.prog 17 #[.string s] W fun e w' => ∃ g cap, e = .returned (.slice (some ⟨g, 0, none⟩) (wdL [] s.data.toList).length cap) ∧ Hid (WdAt w' g (wdL [] s.data.toList)) ∧ Hid (Below W.heap.size W w') := by
  refine (WordsOf_any s W hs).mono ?_
  rintro e w' ⟨v, rfl, h1, h2⟩
  have hne := wdL_ne s.data.toList []
  generalize wdL [] s.data.toList = ws at *
  have hl : ws.length ≠ 0 := fun e => hne (List.length_eq_zero_iff.1 e)
  rcases h1.2 with ⟨_, hz⟩ | ⟨g, cap, cur, rfl, _⟩
  · exact absurd hz hl
  · refine ⟨g, cap, rfl, fun j hj => ?_, h2⟩
    have := h1.cells rfl j (.string (bA (ws.getD j []))) (by unfold strs; rw [List.getElem?_map, List.getElem?_eq_getElem hj, List.getD_eq_getElem?_getD, List.getElem?_eq_getElem hj]; rfl)
    rwa [addr_add, Nat.zero_add] at this
theorem TxAt.get {w : World} {co : Option Addr} {ss : List ByteArray} (h : TxAt w co ss) {k : Nat} (hk : k < ss.length) : ∃ g o, co = some ⟨g, o, none⟩ ∧ g < w.heap.size ∧ w.cell? ⟨g, o + k, none⟩ = some (.string ss[k]) := by
  rcases h with h | ⟨g, o, e, hg, hc⟩
  · rw [h] at hk; simp at hk
  · exact ⟨g, o, e, hg, hc k hk⟩
theorem eqb (a b : List UInt8) : ((bA a).toList == b) = decide (a = b) := by
  rw [Lib.toList_data]
  show (a.toArray.toList == b) = _
  rw [Bool.eq_iff_iff, beq_iff_eq, decide_eq_true_iff]
end Go.Proofs.YtapiedeekbfpnaaGreatDoor
