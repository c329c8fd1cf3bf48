/- What a proof shows, plain: on which side one is, from the whole on; what comes of a text and of what stands beside it. -/
import Derived.Test.YtagelkaenbdlaaaDoorPfP
namespace Go.Proofs.YtagelkaenbdlaaaDoor
open Go.RowKit

def sidesF : Nat → Nat → Nat → List Bool
  | 0, _, _ => []
  | f + 1, i, n => if n ≤ 1 then [] else if i < side n then false :: sidesF f i (side n) else true :: sidesF f (i - side n) (n - side n)
def sidesL (i n : Nat) : List Bool := sidesF n i n
theorem sidesF_more : ∀ f g i n : Nat, n ≤ f → n ≤ g → sidesF f i n = sidesF g i n := by
  intro f
  induction f with
  | zero =>
    intro g i n h1 _
    cases g with
    | zero => rfl
    | succ g => unfold sidesF; rw [if_pos (by omega)]
  | succ f ih =>
    intro g i n h1 h2
    cases g with
    | zero => unfold sidesF; rw [if_pos (by omega)]
    | succ g =>
      unfold sidesF
      by_cases h0 : n ≤ 1
      · rw [if_pos h0, if_pos h0]
      · rw [if_neg h0, if_neg h0]
        have hl := side_lt n (by omega)
        have hp := side_pos n
        rw [ih g i (side n) (by omega) (by omega), ih g (i - side n) (n - side n) (by omega) (by omega)]
theorem sidesL_one (i n : Nat) (h : n ≤ 1) : sidesL i n = [] := by
  unfold sidesL
  match n, h with
  | 0, _ => rfl
  | 1, _ => rfl
theorem sidesL_lo (i n : Nat) (h : 2 ≤ n) (hi : i < side n) : sidesL i n = false :: sidesL i (side n) := by
  obtain ⟨f, hf⟩ : ∃ f, n = f + 1 := ⟨n - 1, by omega⟩
  have hl := side_lt n h
  have e : sidesL i n = sidesF (f + 1) i n := by unfold sidesL; rw [← hf]
  rw [e]
  unfold sidesF
  rw [if_neg (by omega), if_pos hi]
  unfold sidesL
  rw [sidesF_more f (side n) i (side n) (by omega) (Nat.le_refl _)]
theorem sidesL_hi (i n : Nat) (h : 2 ≤ n) (hi : side n ≤ i) : sidesL i n = true :: sidesL (i - side n) (n - side n) := by
  obtain ⟨f, hf⟩ : ∃ f, n = f + 1 := ⟨n - 1, by omega⟩
  have hp := side_pos n
  have e : sidesL i n = sidesF (f + 1) i n := by unfold sidesL; rw [← hf]
  rw [e]
  unfold sidesF
  rw [if_neg (by omega), if_neg (by omega)]
  unfold sidesL
  rw [sidesF_more f (n - side n) (i - side n) (n - side n) (by omega) (Nat.le_refl _)]
theorem sidesL_len : ∀ m i n : Nat, n ≤ m → 0 < n → (sidesL i n).length < n := by
  intro m
  induction m with
  | zero => intro i n h h0; omega
  | succ m ih =>
    intro i n h h0
    by_cases h1 : n ≤ 1
    · rw [sidesL_one i n h1]; exact h0
    · have hl := side_lt n (by omega)
      have hp := side_pos n
      by_cases hi : i < side n
      · rw [sidesL_lo i n (by omega) hi, List.length_cons]
        have := ih i (side n) (by omega) hp
        omega
      · rw [sidesL_hi i n (by omega) (by omega), List.length_cons]
        have := ih (i - side n) (n - side n) (by omega) (by omega)
        omega
theorem proof_sides : ∀ (m : Nat) (ss : List ByteArray) (i : Nat), ss.length ≤ m → (proofL ss i).length = (sidesL i ss.length).length := by
  intro m
  induction m with
  | zero => intro ss i h; rw [proofL_one ss i (by omega), sidesL_one i _ (by omega)]; rfl
  | succ m ih =>
    intro ss i h
    by_cases h1 : ss.length ≤ 1
    · rw [proofL_one ss i h1, sidesL_one i _ h1]; rfl
    · have hl := side_lt ss.length (by omega)
      have hp := side_pos ss.length
      by_cases hi : i < side ss.length
      · rw [proofL_lo ss i (by omega) hi, sidesL_lo i _ (by omega) hi, List.length_append, ih _ _ (by rw [List.length_take]; omega), List.length_take, Nat.min_eq_left (by omega)]
        rfl
      · rw [proofL_hi ss i (by omega) (by omega), sidesL_hi i _ (by omega) (by omega), List.length_append, ih _ _ (by rw [List.length_drop]; omega), List.length_drop]
        rfl

/-- One step up. -/
def stepB (a : ByteArray) (s : Bool) (p : ByteArray) : ByteArray := bif s then pairB p a else pairB a p
def foldU (a : ByteArray) : List Bool → List ByteArray → ByteArray
  | s :: sr, p :: ps => foldU (stepB a s p) sr ps
  | _, _ => a
theorem foldU_nil (a : ByteArray) (ps : List ByteArray) : foldU a [] ps = a := by unfold foldU; rfl
theorem foldU_snoc : ∀ (sr : List Bool) (ps : List ByteArray) (a : ByteArray) (s : Bool) (p : ByteArray), sr.length = ps.length → foldU a (sr ++ [s]) (ps ++ [p]) = stepB (foldU a sr ps) s p := by
  intro sr
  induction sr with
  | nil => intro ps a s p h; match ps, h with | [], _ => rfl
  | cons x sr ih =>
    intro ps a s p h
    match ps, h with
    | y :: ps, h => exact ih ps _ s p (by simpa using h)
theorem foldU_take (sr : List Bool) (ps : List ByteArray) (a : ByteArray) (k : Nat) (h1 : k < sr.length) (h2 : k < ps.length) : foldU a (sr.take (k + 1)) (ps.take (k + 1)) = stepB (foldU a (sr.take k) (ps.take k)) sr[k] ps[k] := by
  rw [List.take_succ_eq_append_getElem h1, List.take_succ_eq_append_getElem h2]
  exact foldU_snoc _ _ _ _ _ (by rw [List.length_take, List.length_take]; omega)
def shownB (t : ByteArray) (i n : Nat) (ps : List ByteArray) : ByteArray := foldU (leafB t) (sidesL i n).reverse ps
theorem stepB_dig (a : ByteArray) (s : Bool) (p : ByteArray) : digOk (stepB a s p) = true := by
  unfold stepB
  cases s
  · exact sm_dig _
  · exact sm_dig _
theorem foldU_dig : ∀ (sr : List Bool) (ps : List ByteArray) (a : ByteArray), digOk a = true → digOk (foldU a sr ps) = true := by
  intro sr
  induction sr with
  | nil => intro ps a h; rw [foldU_nil]; exact h
  | cons x sr ih =>
    intro ps a h
    match ps with
    | [] => unfold foldU; exact h
    | p :: ps => exact ih ps _ (stepB_dig _ _ _)
theorem leafB_dig (t : ByteArray) : digOk (leafB t) = true := sm_dig _
theorem shown_dig (t : ByteArray) (i n : Nat) (ps : List ByteArray) : digOk (shownB t i n ps) = true := foldU_dig _ _ _ (leafB_dig t)
theorem shown_one (t : ByteArray) (i n : Nat) (ps : List ByteArray) (h : n ≤ 1) : shownB t i n ps = leafB t := by
  unfold shownB
  rw [sidesL_one i n h]
  exact foldU_nil _ _
theorem shown_lo (t : ByteArray) (i n : Nat) (ps : List ByteArray) (p : ByteArray) (h : 2 ≤ n) (hi : i < side n) (hl : ps.length = (sidesL i (side n)).length) : shownB t i n (ps ++ [p]) = pairB (shownB t i (side n) ps) p := by
  unfold shownB
  rw [sidesL_lo i n h hi, List.reverse_cons, foldU_snoc _ _ _ _ _ (by rw [List.length_reverse, hl])]
  rfl
theorem shown_hi (t : ByteArray) (i n : Nat) (ps : List ByteArray) (p : ByteArray) (h : 2 ≤ n) (hi : side n ≤ i) (hl : ps.length = (sidesL (i - side n) (n - side n)).length) : shownB t i n (ps ++ [p]) = pairB p (shownB t (i - side n) (n - side n) ps) := by
  unfold shownB
  rw [sidesL_hi i n h hi, List.reverse_cons, foldU_snoc _ _ _ _ _ (by rw [List.length_reverse, hl])]
  rfl
end Go.Proofs.YtagelkaenbdlaaaDoor
