/- Files that a command does not read, nor lists, do not matter to it, plain. -/
import Derived.Test.YtapiedeekbfpnaaGreatDoorSd3M
namespace Go.Proofs.YtapiedeekbfpnaaGreatDoor
open Go.RowKit Go.Shelf Go.Maps Go.WideMaps Go.Sort

theorem fnd_ins {o : Fl} {p : ByteArray} (h : p.data.toList ≠ pth o) : ∀ F : List Fl, fndF (insF o F) p = fndF F p
  | [] => by
    unfold fndF insF
    rw [List.find?_cons]
    rw [decide_eq_false (fun e => h e.symm)]
  | g :: l => by
    have ih := fnd_ins h l
    unfold fndF at ih ⊢
    unfold insF
    split
    · rw [List.find?_cons, List.find?_cons, ih]
    · rw [List.find?_cons, decide_eq_false (fun e => h e.symm)]
theorem txR_ins {o : Fl} {F : List Fl} {m : Mc} {l : Ln} (h2 : wkF l ≠ 2) (h1 : wkF l = 1 → l.pa.data.toList ≠ pth o) : txR (insF o F) m l = txR F m l := by
  unfold txR
  split <;> rename_i hk
  · rfl
  · simp only [fnd_ins (h1 hk)]
  · exact absurd hk h2
  · rfl
  · rfl
  · rfl
  · rfl
theorem run_blind {o : Fl} {F : List Fl} {ls : List Ln} (h : ∀ l ∈ ls, wkF l ≠ 2 ∧ (wkF l = 1 → l.pa.data.toList ≠ pth o)) : ∀ (k : Nat) (m : Mc) (L : List Fl), runM (insF o F) ls k m L = runM F ls k m L
  | 0, _, _ => rfl
  | k + 1, m, L => by
    by_cases hs : stp ls m = true
    · rw [runM_stp _ ls m L hs, runM_stp _ ls m L hs]
    · have hs : stp ls m = false := by simpa using hs
      have hn : m.next < ls.length := by
        unfold stp at hs
        rw [Bool.or_eq_false_iff] at hs
        have := of_decide_eq_false hs.2
        omega
      have hmem : lnAt ls m ∈ ls := by
        unfold lnAt
        rw [List.getD_eq_getElem?_getD, List.getElem?_eq_getElem hn]
        exact List.getElem_mem hn
      obtain ⟨h2, h1⟩ := h _ hmem
      have ec : cst (insF o F) L (nxM m) (lnAt ls m) = cst F L (nxM m) (lnAt ls m) := by unfold cst; rw [txR_ins h2 h1]
      have ef : fin (insF o F) L (nxM m) (lnAt ls m) = fin F L (nxM m) (lnAt ls m) := by unfold fin; rw [txR_ins h2 h1]
      rw [step_eq _ ls k m L hs, step_eq _ ls k m L hs, ec, ef]
      split
      · rfl
      · exact run_blind h k _ _
/-- A line, as words, lists, or reads this file. -/
def bld (o : Fl) (s : ByteArray) : Bool := decide ((wdL [] s.data.toList).getD 0 [] = [108, 105, 115, 116]) || (decide ((wdL [] s.data.toList).getD 0 [] = [114, 101, 97, 100]) && decide ((wdL [] s.data.toList).getD 2 [] = pth o))
theorem takP_pa {lines : Nat} {l l' : Ln} {g : List UInt8} (e : takP lines 7 l g = some l') : l'.pa = bA g := by
  have e : (if pathOk (bA g) = true then some { l with pa := bA g } else Option.none) = some l' := e
  split at e
  · obtain rfl := Option.some.inj e
    rfl
  · cases e
theorem lin_read {lines : Nat} {s : List UInt8} {l : Ln} (hs : s.length ≤ 100000) (h : linF lines s = some l) (hk : wkF l = 1) : (wdL [] s).length = 3 ∧ (wdL [] s).getD 2 [] = l.pa.data.toList := by
  obtain ⟨f, f1, f2, f3⟩ := lin_words hs h (by omega)
  have e : f = [0, 7] := by rw [hk] at f1; exact (congrArg Prod.snd (Option.some.inj f1)).symm
  subst e
  refine ⟨f2, ?_⟩
  match hw : wdL [] s, f2 with
  | [a, b, c], _ =>
    rw [hw] at f3
    obtain ⟨l1, e1, e2⟩ := Option.bind_eq_some_iff.1 (show (takP lines 0 _ b).bind (fun l' => foldP lines [7] [c] l') = some l from f3)
    obtain ⟨l2, e3, e4⟩ := Option.bind_eq_some_iff.1 (show (takP lines 7 l1 c).bind (fun l' => foldP lines [] [] l') = some l from e2)
    have e4 : l2 = l := Option.some.inj e4
    subst e4
    rw [takP_pa e3]
    simp [bA]
theorem bld_words {ss : List ByteArray} (h : (chkF ss).2 = 0) {s : ByteArray} (hs : s ∈ ss) (hw : (wdL [] s.data.toList).getD 0 [] = [114, 101, 97, 100]) : (wdL [] s.data.toList).length = 3 := by
  obtain ⟨hsz, l, hl, hlin⟩ := chk_all h hs
  have hsz2 : s.data.toList.length ≤ 100000 := by rw [Array.length_toList]; exact hsz
  obtain ⟨w0, h13⟩ := wrd_kind hsz2 hlin
  refine (lin_read hsz2 hlin ?_).1
  rw [w0] at hw
  have key : ∀ j, j < 13 → wrdL.getD j [] = [114, 101, 97, 100] → j = 1 := by decide
  exact key _ h13 hw
theorem no_bld {o : Fl} {ss : List ByteArray} (h : (chkF ss).2 = 0) (hb : ∀ s ∈ ss, bld o s = false) : ∀ l ∈ lnsF ss.length ss, wkF l ≠ 2 ∧ (wkF l = 1 → l.pa.data.toList ≠ pth o) := by
  intro l hl
  obtain ⟨s, hs, hsz, hlin⟩ := lns_of h hl
  obtain ⟨w0, h13⟩ := wrd_kind hsz hlin
  have h1 := hb s hs
  unfold bld at h1
  rw [Bool.or_eq_false_iff] at h1
  constructor
  · intro e
    rw [w0, e] at h1
    exact absurd h1.1 (by decide)
  · intro e e2
    have h3 := (lin_read hsz hlin e).2
    rw [w0, e, h3, e2] at h1
    exact absurd h1.2 (by simp [wrdL, frmL])
theorem rn_blind {o : Fl} {F : List Fl} {ss : List ByteArray} {fuel : Int} (h : rnE F ss fuel = 0) (hb : ∀ s ∈ ss, bld o s = false) (h2 : rnE (insF o F) ss fuel = 0) : rnL (insF o F) ss fuel = rnL F ss fuel ∧ rnC (insF o F) ss fuel = rnC F ss fuel ∧ rnS (insF o F) ss fuel = rnS F ss fuel := by
  obtain ⟨fu, rfl, _, _, hc⟩ := rn_zero h
  have e : rnR (insF o F) (lnsF ss.length ss) fu = rnR F (lnsF ss.length ss) fu := run_blind (no_bld hc hb) _ _ _
  obtain ⟨v1, v2, v3⟩ := rn_val h
  obtain ⟨u1, u2, u3⟩ := rn_val h2
  rw [e] at u1 u2 u3
  exact ⟨u1.trans v1.symm, u2.trans v2.symm, u3.trans v3.symm⟩
end Go.Proofs.YtapiedeekbfpnaaGreatDoor
