/- What a command without jumps burns, plain. -/
import Derived.Test.YtapiedeekbfpnaaGreatDoorSd3M
namespace Go.Proofs.YtapiedeekbfpnaaGreatDoor
open Go.RowKit Go.Shelf Go.Maps Go.WideMaps Go.Sort

theorem cst_le {F L : List Fl} {m : Mc} (h : MOk m L) (l : Ln) : cst F L m l ≤ 6251 := by
  have ht := txF_size h l.r
  unfold cst
  repeat' split
  all_goals omega
theorem fin_next {F L : List Fl} {m : Mc} {l : Ln} (h : wkF l ≠ 9 ∧ wkF l ≠ 10 ∧ wkF l ≠ 11) : (fin F L m l).next = m.next := by
  unfold fin
  repeat' split
  all_goals first | rfl | (exfalso; omega)
theorem run_ends {F : List Fl} {ls : List Ln} (hp : ∀ l ∈ ls, PaOk l) (hj : ∀ l ∈ ls, wkF l ≠ 9 ∧ wkF l ≠ 10 ∧ wkF l ≠ 11) : ∀ (k : Nat) (m : Mc) (L : List Fl), MOk m L → m.fuel ≤ (runM F ls k m L).1.fuel + (ls.length - m.next) * 6251
  | 0, _, _, _ => Nat.le_add_right _ _
  | k + 1, m, L, h => by
    by_cases hs : stp ls m = true
    · rw [runM_stp F ls m L hs]; exact Nat.le_add_right _ _
    · have hs : stp ls m = false := by simpa using hs
      rw [step_eq F ls k m L hs]
      have hn : m.next < ls.length := by
        unfold stp at hs
        rw [Bool.or_eq_false_iff] at hs
        have := of_decide_eq_false hs.2
        omega
      have hmem : lnAt ls m ∈ ls := by
        unfold lnAt
        rw [List.getD_eq_getElem?_getD, List.getElem?_eq_getElem hn]
        exact List.getElem_mem hn
      have hok : MOk (nxM m) L := h.tx_same rfl
      have hc := cst_le (F := F) hok (lnAt ls m)
      have hmul : (ls.length - m.next) * 6251 = (ls.length - (m.next + 1)) * 6251 + 6251 := by
        rw [show ls.length - m.next = ls.length - (m.next + 1) + 1 by omega, Nat.add_mul]
      split
      · show m.fuel ≤ 0 + _
        omega
      · rename_i hf
        have hdo := MOk.do (F := F) hok (lnAt ls m) (hp _ hmem)
        rw [do_eq, doL_eq F, if_neg (show ¬ (nxM m).fuel < _ from hf), if_neg (show ¬ (nxM m).fuel < _ from hf)] at hdo
        have ih := run_ends (F := F) hp hj k _ _ hdo
        have e1 : (wF (fin F L (nxM m) (lnAt ls m)) ((nxM m).fuel - cst F L (nxM m) (lnAt ls m))).fuel = m.fuel - cst F L (nxM m) (lnAt ls m) := rfl
        have e2 : (wF (fin F L (nxM m) (lnAt ls m)) ((nxM m).fuel - cst F L (nxM m) (lnAt ls m))).next = m.next + 1 := fin_next (hj _ hmem)
        rw [e1, e2] at ih
        have e3 : (nxM m).fuel = m.fuel := rfl
        rw [e3] at ih
        omega
/-- A line, as words, jumps. -/
def jmp (s : ByteArray) : Bool := decide ((wdL [] s.data.toList).getD 0 [] = [103, 111, 116, 111]) || decide ((wdL [] s.data.toList).getD 0 [] = [115, 97, 109, 101]) || decide ((wdL [] s.data.toList).getD 0 [] = [108, 101, 115, 115])
theorem no_jump {ss : List ByteArray} (h : (chkF ss).2 = 0) (hj : ∀ s ∈ ss, jmp s = false) : ∀ l ∈ lnsF ss.length ss, wkF l ≠ 9 ∧ wkF l ≠ 10 ∧ wkF l ≠ 11 := by
  intro l hl
  obtain ⟨s, hs, hsz, hlin⟩ := lns_of h hl
  obtain ⟨w0, h13⟩ := wrd_kind hsz hlin
  have h1 := hj s hs
  unfold jmp at h1
  rw [w0] at h1
  have key : ∀ j, j < 13 → (decide (wrdL.getD j [] = [103, 111, 116, 111]) || decide (wrdL.getD j [] = [115, 97, 109, 101]) || decide (wrdL.getD j [] = [108, 101, 115, 115])) = false → j ≠ 9 ∧ j ≠ 10 ∧ j ≠ 11 := by decide
  exact key _ h13 h1
theorem rn_ends {F : List Fl} {ss : List ByteArray} (h : rnE F ss ((100000 : Nat) : Int) = 0) (hj : ∀ s ∈ ss, jmp s = false) : ss.length ≤ 60 ∧ rnS F ss ((100000 : Nat) : Int) ≤ ss.length * 6251 ∧ (rnC F ss ((100000 : Nat) : Int) = 104 → rnS F ss ((100000 : Nat) : Int) = 100000) := by
  obtain ⟨_, _, _, _, h2⟩ := rn_zero h
  obtain ⟨_, _, v3⟩ := rn_val h
  obtain ⟨hl, hok⟩ := lns_ok h2
  refine ⟨hl, ?_, fun hc => rn_out h hc⟩
  have h4 := run_ends (F := F) (fun l hl => (hok l hl).2.1) (no_jump h2 hj) (100000 + 1) (mz 100000) [] (mz_ok _)
  have e1 : (mz 100000).next = 0 := rfl
  have e2 : (mz 100000).fuel = 100000 := rfl
  have e3 : (lnsF ss.length ss).length ≤ ss.length := List.length_filterMap_le _ _
  rw [e1, e2] at h4
  have e4 : (runM F (lnsF ss.length ss) (100000 + 1) (mz 100000) []).1.fuel = (rnR F (lnsF ss.length ss) 100000).1.fuel := rfl
  rw [e4] at h4
  have h5 : ((lnsF ss.length ss).length - 0) * 6251 ≤ ss.length * 6251 := Nat.mul_le_mul_right _ (by omega)
  rw [v3]
  omega
end Go.Proofs.YtapiedeekbfpnaaGreatDoor
