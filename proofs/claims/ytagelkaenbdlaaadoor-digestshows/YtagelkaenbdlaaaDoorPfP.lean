/- Proofs of texts, plain: what stands beside, from the text up. -/
import Derived.Test.YtagelkaenbdlaaaDoorRRoot2
namespace Go.Proofs.YtagelkaenbdlaaaDoor
open Go.RowKit

def proofF : Nat → List ByteArray → Nat → List ByteArray
  | 0, _, _ => []
  | f + 1, ss, i => if ss.length ≤ 1 then [] else if i < side ss.length then proofF f (ss.take (side ss.length)) i ++ [rootB (ss.drop (side ss.length))] else proofF f (ss.drop (side ss.length)) (i - side ss.length) ++ [rootB (ss.take (side ss.length))]
def proofL (ss : List ByteArray) (i : Nat) : List ByteArray := proofF ss.length ss i
theorem proofF_more : ∀ f g (ss : List ByteArray) (i : Nat), ss.length ≤ f → ss.length ≤ g → proofF f ss i = proofF g ss i := by
  intro f
  induction f with
  | zero =>
    intro g ss i h1 _
    cases g with
    | zero => rfl
    | succ g => unfold proofF; rw [if_pos (by omega)]
  | succ f ih =>
    intro g ss i h1 h2
    cases g with
    | zero => unfold proofF; rw [if_pos (by omega)]
    | succ g =>
      unfold proofF
      by_cases h0 : ss.length ≤ 1
      · rw [if_pos h0, if_pos h0]
      · rw [if_neg h0, if_neg h0]
        have hl := side_lt ss.length (by omega)
        have hp := side_pos ss.length
        rw [ih g (ss.take (side ss.length)) i (by rw [List.length_take]; omega) (by rw [List.length_take]; omega), ih g (ss.drop (side ss.length)) (i - side ss.length) (by rw [List.length_drop]; omega) (by rw [List.length_drop]; omega)]
theorem proofL_one (ss : List ByteArray) (i : Nat) (h : ss.length ≤ 1) : proofL ss i = [] := by
  unfold proofL
  match hs : ss.length with
  | 0 => rfl
  | f + 1 => unfold proofF; rw [if_pos h]
theorem proofL_lo (ss : List ByteArray) (i : Nat) (h : 2 ≤ ss.length) (hi : i < side ss.length) : proofL ss i = proofL (ss.take (side ss.length)) i ++ [rootB (ss.drop (side ss.length))] := by
  obtain ⟨f, hf⟩ : ∃ f, ss.length = f + 1 := ⟨ss.length - 1, by omega⟩
  have hl := side_lt ss.length h
  have e : proofL ss i = proofF (f + 1) ss i := by unfold proofL; rw [hf]
  rw [e]
  unfold proofF
  rw [if_neg (by omega), if_pos hi]
  unfold proofL
  rw [proofF_more f _ _ i (by rw [List.length_take]; omega) (Nat.le_refl _)]
theorem proofL_hi (ss : List ByteArray) (i : Nat) (h : 2 ≤ ss.length) (hi : side ss.length ≤ i) : proofL ss i = proofL (ss.drop (side ss.length)) (i - side ss.length) ++ [rootB (ss.take (side ss.length))] := by
  obtain ⟨f, hf⟩ : ∃ f, ss.length = f + 1 := ⟨ss.length - 1, by omega⟩
  have hp := side_pos ss.length
  have e : proofL ss i = proofF (f + 1) ss i := by unfold proofL; rw [hf]
  rw [e]
  unfold proofF
  rw [if_neg (by omega), if_neg (by omega)]
  unfold proofL
  rw [proofF_more f _ _ (i - side ss.length) (by rw [List.length_drop]; omega) (Nat.le_refl _)]
theorem proofL_len : ∀ (n : Nat) (ss : List ByteArray) (i : Nat), ss.length ≤ n → 0 < ss.length → (proofL ss i).length < ss.length := by
  intro n
  induction n with
  | zero => intro ss i h h0; omega
  | succ n ih =>
    intro ss i h h0
    by_cases h1 : ss.length ≤ 1
    · rw [proofL_one ss i h1]; exact h0
    · have hl := side_lt ss.length (by omega)
      have hp := side_pos ss.length
      by_cases hi : i < side ss.length
      · rw [proofL_lo ss i (by omega) hi, List.length_append]
        have := ih (ss.take (side ss.length)) i (by rw [List.length_take]; omega) (by rw [List.length_take]; omega)
        rw [List.length_take] at this
        simp only [List.length_cons, List.length_nil]
        omega
      · rw [proofL_hi ss i (by omega) (by omega), List.length_append]
        have := ih (ss.drop (side ss.length)) (i - side ss.length) (by rw [List.length_drop]; omega) (by rw [List.length_drop]; omega)
        rw [List.length_drop] at this
        simp only [List.length_cons, List.length_nil]
        omega
theorem rootB_dig (ss : List ByteArray) : digOk (rootB ss) = true := rootF_dig _ _
theorem proofL_dig : ∀ (n : Nat) (ss : List ByteArray) (i : Nat), ss.length ≤ n → ∀ x ∈ proofL ss i, digOk x = true := by
  intro n
  induction n with
  | zero => intro ss i h x hx; rw [proofL_one ss i (by omega)] at hx; cases hx
  | succ n ih =>
    intro ss i h x hx
    by_cases h1 : ss.length ≤ 1
    · rw [proofL_one ss i h1] at hx; cases hx
    · have hl := side_lt ss.length (by omega)
      have hp := side_pos ss.length
      by_cases hi : i < side ss.length
      · rw [proofL_lo ss i (by omega) hi] at hx
        rcases List.mem_append.1 hx with h2 | h2
        · exact ih _ _ (by rw [List.length_take]; omega) x h2
        · simp at h2; subst h2; exact rootB_dig _
      · rw [proofL_hi ss i (by omega) (by omega)] at hx
        rcases List.mem_append.1 hx with h2 | h2
        · exact ih _ _ (by rw [List.length_drop]; omega) x h2
        · simp at h2; subst h2; exact rootB_dig _
end Go.Proofs.YtagelkaenbdlaaaDoor
