/- A command, and two lines behind it, plain. -/
import Derived.Test.YtapiedeekbfpnaaGreatDoorSd5M
namespace Go.Proofs.YtapiedeekbfpnaaGreatDoor
open Go.RowKit Go.Shelf Go.Maps Go.WideMaps Go.Sort

theorem do_next {F L : List Fl} {m : Mc} {l : Ln} (h : wkF l ≠ 9 ∧ wkF l ≠ 10 ∧ wkF l ≠ 11) : (doM F L m l).next = m.next := by
  rw [do_eq]
  split
  · rfl
  · exact fin_next h
/-- A command without jumps, and lines behind it: where the first one came to, the others go on. -/
theorem run_pre {F : List Fl} {ls ext : List Ln} (hj : ∀ l ∈ ls, wkF l ≠ 9 ∧ wkF l ≠ 10 ∧ wkF l ≠ 11) (j : Nat) : ∀ (k : Nat) (m : Mc) (L : List Fl), m.next ≤ ls.length → stp ls (runM F ls k m L).1 = true →
    ((runM F ls k m L).1.next ≤ ls.length) ∧ ∃ j', j ≤ j' ∧ runM F (ls ++ ext) (k + j) m L = runM F (ls ++ ext) j' (runM F ls k m L).1 (runM F ls k m L).2
  | 0, m, L, hn, _ => ⟨hn, j, Nat.le_refl _, by rw [Nat.zero_add]; rfl⟩
  | k + 1, m, L, hn, hst => by
    by_cases hs : stp ls m = true
    · rw [runM_stp F ls m L hs]
      exact ⟨hn, k + 1 + j, by omega, rfl⟩
    · have hs : stp ls m = false := by simpa using hs
      have hlt : m.next < ls.length := by
        unfold stp at hs
        rw [Bool.or_eq_false_iff] at hs
        have := of_decide_eq_false hs.2
        omega
      have hmem : lnAt ls m ∈ ls := by
        unfold lnAt
        rw [List.getD_eq_getElem?_getD, List.getElem?_eq_getElem hlt]
        exact List.getElem_mem hlt
      have e1 : lnAt (ls ++ ext) m = lnAt ls m := by
        unfold lnAt
        rw [List.getD_eq_getElem?_getD, List.getD_eq_getElem?_getD, List.getElem?_append_left hlt]
      have e2 : stp (ls ++ ext) m = false := by
        unfold stp at hs ⊢
        rw [Bool.or_eq_false_iff] at hs ⊢
        exact ⟨hs.1, decide_eq_false (by rw [List.length_append]; omega)⟩
      rw [runM_go F ls m L hs] at hst ⊢
      have hnx : (doM F L (nxM m) (lnAt ls m)).next ≤ ls.length := by rw [do_next (hj _ hmem)]; exact hlt
      obtain ⟨i1, j', i2, i3⟩ := run_pre hj j k _ _ hnx hst
      refine ⟨i1, j', i2, ?_⟩
      rw [show k + 1 + j = (k + j) + 1 by omega, runM_go F (ls ++ ext) m L e2, e1]
      exact i3
/-- Without lines that end it, what ended did so by a code. -/
theorem fin_cx {F L : List Fl} {m : Mc} {l : Ln} (h : m.ended = false) (hx : wkF l < 12) : (fin F L m l).ended = true → (fin F L m l).code ≠ 0 := by
  unfold fin
  repeat' split
  all_goals first
    | (intro e; rw [h] at e; cases e)
    | (intro _ e; exact absurd e (by show ¬ (101 : Nat) = 0; decide))
    | (intro _ e; exact absurd e (by show ¬ (102 : Nat) = 0; decide))
    | (intro _ e; exact absurd e (by show ¬ (103 : Nat) = 0; decide))
    | (exfalso; omega)
    | (intro e; have e : m.ended = true := e; rw [h] at e; cases e)
theorem run_cx {F : List Fl} {ls : List Ln} (hx : ∀ l ∈ ls, wkF l < 12) : ∀ (k : Nat) (m : Mc) (L : List Fl), (m.ended = true → m.code ≠ 0) → ((runM F ls k m L).1.ended = true → (runM F ls k m L).1.code ≠ 0)
  | 0, _, _, h => h
  | k + 1, m, L, h => by
    by_cases hs : stp ls m = true
    · rw [runM_stp F ls m L hs]; exact h
    · have hs : stp ls m = false := by simpa using hs
      rw [step_eq F ls k m L hs]
      have he : m.ended = false := by unfold stp at hs; rw [Bool.or_eq_false_iff] at hs; exact hs.1
      have hn : m.next < ls.length := by
        unfold stp at hs
        rw [Bool.or_eq_false_iff] at hs
        have := of_decide_eq_false hs.2
        omega
      have hmem : lnAt ls m ∈ ls := by
        unfold lnAt
        rw [List.getD_eq_getElem?_getD, List.getElem?_eq_getElem hn]
        exact List.getElem_mem hn
      split
      · intro _ e
        exact absurd e (by show ¬ (104 : Nat) = 0; decide)
      · exact run_cx hx k _ _ (fin_cx (m := nxM m) he (hx _ hmem))
/-- Two lines behind: a text is set into the last register, and made. -/
theorem run_two {F : List Fl} {ls : List Ln} {l1 l2 : Ln} {m : Mc} {L : List Fl} (hok : MOk m L) (he : m.ended = false) (hc : m.code = 0) (hn : m.next = ls.length) (h1 : wkF l1 = 0) (hr1 : l1.r = 7) (hs1 : l1.tx.size ≤ 100000) (h2 : wkF l2 = 7) (hr2 : l2.r = 7) (j : Nat) (hj : 3 ≤ j) :
    let R := runM F (ls ++ [l1, l2]) j m L
    R.1.code = 0 → R.2 = putF L ⟨l2.pa, l1.tx, false⟩ ∧ m.fuel = R.1.fuel + (2 + 2 * (l1.tx.size / 16)) := by
  intro R hR
  obtain ⟨j, rfl⟩ : ∃ i, j = i + 3 := ⟨j - 3, by omega⟩
  have es1 : stp (ls ++ [l1, l2]) m = false := by
    unfold stp
    rw [he, decide_eq_false (by rw [List.length_append, hn]; simp)]
    rfl
  have el1 : lnAt (ls ++ [l1, l2]) m = l1 := by
    unfold lnAt
    rw [hn, List.getD_eq_getElem?_getD, List.getElem?_append_right (Nat.le_refl _), Nat.sub_self]
    rfl
  have ht1 : txR F (nxM m) l1 = some l1.tx := by unfold txR; simp only [h1]
  have ec1 : cst F L (nxM m) l1 = 1 + l1.tx.size / 16 := by
    unfold cst
    rw [if_pos (by omega), ht1]
    simp only
    rw [if_neg (by omega)]
  have ef1 : fin F L (nxM m) l1 = { nxM m with tx := m.tx.set 7 l1.tx } := by
    unfold fin
    rw [if_pos (by omega), ht1]
    simp only
    rw [if_neg (by omega), hr1]
    rfl
  have eL1 : finL L (nxM m) l1 = L := by
    unfold finL
    rw [if_neg (fun h => by rcases h.1 with e | e <;> omega)]
  have hR' : R = runM F (ls ++ [l1, l2]) (j + 3) m L := rfl
  rw [step_eq F _ (j + 2) m L es1, el1, ec1, ef1, eL1] at hR'
  split at hR'
  · rw [hR'] at hR
    exact absurd hR (by show ¬ (104 : Nat) = 0; decide)
  · rename_i hf1
    obtain ⟨m1, hm1⟩ : ∃ m1, wF { nxM m with tx := m.tx.set 7 l1.tx } (m.fuel - (1 + l1.tx.size / 16)) = m1 := ⟨_, rfl⟩
    rw [hm1] at hR'
    have m1e : m1.ended = false := by rw [← hm1]; exact he
    have m1n : m1.next = ls.length + 1 := by rw [← hm1]; show m.next + 1 = _; rw [hn]
    have m1f : m1.fuel = m.fuel - (1 + l1.tx.size / 16) := by rw [← hm1]; rfl
    have m1t : txF (nxM m1) 7 = l1.tx := by
      rw [← hm1]
      show (m.tx.set 7 l1.tx).getD 7 _ = _
      rw [List.getD_eq_getElem?_getD, List.getElem?_set_self (by rw [hok.len]; decide)]
      rfl
    have m1c : m1.code = 0 := by rw [← hm1]; exact hc
    have es2 : stp (ls ++ [l1, l2]) m1 = false := by
      unfold stp
      rw [m1e, decide_eq_false (by rw [List.length_append, m1n]; simp)]
      rfl
    have el2 : lnAt (ls ++ [l1, l2]) m1 = l2 := by
      unfold lnAt
      rw [m1n, List.getD_eq_getElem?_getD, List.getElem?_append_right (by omega), show ls.length + 1 - ls.length = 1 by omega]
      rfl
    rw [step_eq F _ (j + 1) m1 L es2, el2] at hR'
    by_cases hm : mayF L l2.pa = true
    · have ec2 : cst F L (nxM m1) l2 = 1 + l1.tx.size / 16 := by
        unfold cst
        rw [if_neg (by omega), if_pos (by omega), if_pos hm, hr2, m1t]
      have ef2 : fin F L (nxM m1) l2 = nxM m1 := by
        unfold fin
        rw [if_neg (by omega), if_pos (by omega), if_pos hm]
      have eL2 : finL L (nxM m1) l2 = putF L ⟨l2.pa, l1.tx, false⟩ := by
        unfold finL
        rw [if_pos ⟨.inl h2, hm⟩, hr2, m1t]
        congr 2
        rw [h2]
        rfl
      rw [ec2, ef2, eL2] at hR'
      split at hR'
      · rw [hR'] at hR
        exact absurd hR (by show ¬ (104 : Nat) = 0; decide)
      · rename_i hf2
        rw [runM_stp F _ _ _ (by unfold stp; show (m1.ended || decide (_ ≤ m1.next + 1)) = true; rw [m1n, decide_eq_true (by rw [List.length_append]; simp)]; simp)] at hR'
        rw [hR']
        refine ⟨rfl, ?_⟩
        show m.fuel = m1.fuel - (1 + l1.tx.size / 16) + _
        omega
    · have ec2 : cst F L (nxM m1) l2 = 1 := by
        unfold cst
        rw [if_neg (by omega), if_pos (by omega), if_neg hm]
      have ef2 : fin F L (nxM m1) l2 = { nxM m1 with ended := true, code := 103 } := by
        unfold fin
        rw [if_neg (by omega), if_pos (by omega), if_neg hm]
      rw [ec2, ef2] at hR'
      split at hR'
      · rw [hR'] at hR
        exact absurd hR (by show ¬ (104 : Nat) = 0; decide)
      · rw [runM_stp F _ _ _ (by unfold stp; rfl)] at hR'
        rw [hR'] at hR
        exact absurd hR (by show ¬ (103 : Nat) = 0; decide)
end Go.Proofs.YtapiedeekbfpnaaGreatDoor
