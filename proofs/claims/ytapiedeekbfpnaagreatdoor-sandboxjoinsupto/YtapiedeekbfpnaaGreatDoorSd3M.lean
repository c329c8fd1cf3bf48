/- What was made is made by a line that makes it, plain. -/
import Derived.Test.YtapiedeekbfpnaaGreatDoorTa7
namespace Go.Proofs.YtapiedeekbfpnaaGreatDoor
open Go.RowKit Go.Shelf Go.Maps Go.WideMaps Go.Sort

/-- A line makes a file. -/
def MkBy (l : Ln) (f : Fl) : Prop := (wkF l = 7 ∧ f.rn = false ∨ wkF l = 8 ∧ f.rn = true) ∧ l.pa = f.pa
theorem run_made {F : List Fl} {ls : List Ln} : ∀ (k : Nat) (m : Mc) (L : List Fl) (f : Fl), f ∈ (runM F ls k m L).2 → f ∈ L ∨ ∃ l ∈ ls, MkBy l f
  | 0, _, _, _, h => .inl h
  | k + 1, m, L, f, h => by
    by_cases hs : stp ls m = true
    · rw [runM_stp F ls m L hs] at h; exact .inl h
    · have hs : stp ls m = false := by simpa using hs
      rw [step_eq F ls k m L hs] at h
      have hn : m.next < ls.length := by
        unfold stp at hs
        rw [Bool.or_eq_false_iff] at hs
        have := of_decide_eq_false hs.2
        omega
      have hmem : lnAt ls m ∈ ls := by
        unfold lnAt
        rw [List.getD_eq_getElem?_getD, List.getElem?_eq_getElem hn]
        exact List.getElem_mem hn
      split at h
      · exact .inl h
      · rcases run_made k _ _ f h with h | h
        · unfold finL at h
          split at h
          · rename_i hk
            rcases (putF_mem L _ f).1 h with rfl | ⟨h, _⟩
            · refine .inr ⟨_, hmem, ?_, rfl⟩
              rcases hk.1 with e | e
              · exact .inl ⟨e, by simp [e]⟩
              · exact .inr ⟨e, by simp [e]⟩
            · exact .inl h
          · exact .inl h
        · exact .inr h
/-- A command's line, as words, makes a file. -/
def mkd (x : Fl) (s : ByteArray) : Bool := ((decide ((wdL [] s.data.toList).getD 0 [] = [109, 97, 107, 101]) && !x.rn) || (decide ((wdL [] s.data.toList).getD 0 [] = [114, 117, 110]) && x.rn)) && decide ((wdL [] s.data.toList).getD 1 [] = pth x)
theorem wd0 (s : List UInt8) : (wdL [] s).getD 0 [] = (Lib.cut s [32]).1 := by
  obtain ⟨r, hr⟩ := wdL_cut s
  rw [hr]
  rfl
/-- A line that makes: its words. -/
theorem lin_make {lines : Nat} {s : List UInt8} {l : Ln} (hs : s.length ≤ 100000) (h : linF lines s = some l) (hk : wkF l = 7 ∨ wkF l = 8) : (wdL [] s).length = 3 ∧ (wdL [] s).getD 1 [] = l.pa.data.toList := by
  obtain ⟨f, f1, f2, f3⟩ := lin_words hs h (by omega)
  have e : f = [7, 0] := by
    rcases hk with hk | hk
    · rw [hk] at f1; exact (congrArg Prod.snd (Option.some.inj f1)).symm
    · rw [hk] at f1; exact (congrArg Prod.snd (Option.some.inj f1)).symm
  subst e
  refine ⟨f2, ?_⟩
  match hw : wdL [] s, f2 with
  | [a, b, c], _ =>
    rw [hw] at f3
    obtain ⟨l1, e1, e2⟩ := Option.bind_eq_some_iff.1 (show (takP lines 7 _ b).bind (fun l' => foldP lines [0] [c] l') = some l from f3)
    obtain ⟨l2, e3, e4⟩ := Option.bind_eq_some_iff.1 (show (takP lines 0 l1 c).bind (fun l' => foldP lines [] [] l') = some l from e2)
    have e4 : l2 = l := Option.some.inj e4
    subst e4
    rw [takP_pa0 e3]
    have e1 : (if pathOk (bA b) = true then some { ({ Ln.none with wd := bA (Lib.cut s [32]).1 } : Ln) with pa := bA b } else Option.none) = some l1 := e1
    split at e1
    · obtain rfl := Option.some.inj e1
      simp [bA]
    · cases e1
theorem wrd_kind {lines : Nat} {s : List UInt8} {l : Ln} (hs : s.length ≤ 100000) (h : linF lines s = some l) : (wdL [] s).getD 0 [] = wrdL.getD (wkF l) [] ∧ wkF l < 13 := by
  obtain ⟨h13, h2, f, f1, _⟩ := lin_form hs h
  refine ⟨?_, h13⟩
  rw [wd0]
  have : wrdL[wkF l]? = some (Lib.cut s [32]).1 := by
    show (frmL.map (·.1))[wkF l]? = _
    rw [List.getElem?_map, f1]
    rfl
  rw [List.getD_eq_getElem?_getD, this]
  rfl
theorem lns_of {ss : List ByteArray} {l : Ln} (h : (chkF ss).2 = 0) (hl : l ∈ lnsF ss.length ss) : ∃ s ∈ ss, s.data.toList.length ≤ 100000 ∧ linF ss.length s.data.toList = some l := by
  unfold chkF at h
  split at h
  · cases h
  · rename_i hn
    obtain ⟨s, hs, e⟩ := List.mem_filterMap.1 hl
    refine ⟨s, hs, ?_, e⟩
    rw [Array.length_toList]
    exact Nat.le_of_not_lt fun h => hn (.inr ⟨s, hs, h⟩)
/-- Each line of a command that is right is taken apart. -/
theorem chk_all {ss : List ByteArray} (h : (chkF ss).2 = 0) {s : ByteArray} (hs : s ∈ ss) : s.size ≤ 100000 ∧ ∃ l ∈ lnsF ss.length ss, linF ss.length s.data.toList = some l := by
  unfold chkF at h
  split at h
  · cases h
  · rename_i hn
    split at h
    · cases h
    · rename_i hb
      unfold badF at hb
      rw [List.findIdx?_eq_none_iff] at hb
      have h1 := hb s hs
      refine ⟨Nat.le_of_not_lt fun h => hn (.inr ⟨s, hs, h⟩), ?_⟩
      cases hl : linF ss.length s.data.toList with
      | none => rw [hl] at h1; cases h1
      | some l => exact ⟨l, List.mem_filterMap.2 ⟨s, hs, hl⟩, rfl⟩
theorem rn_made {F : List Fl} {ss : List ByteArray} {fuel : Int} (h : rnE F ss fuel = 0) {x : Fl} (hx : x ∈ rnL F ss fuel) : ss.any (mkd x) = true := by
  obtain ⟨fu, rfl, _, _, h2⟩ := rn_zero h
  rw [(rn_val h).1] at hx
  rcases run_made _ _ _ x hx with h3 | ⟨l, hl, hk, hp⟩
  · simp at h3
  · obtain ⟨s, hs, hsz, hlin⟩ := lns_of h2 hl
    rw [List.any_eq_true]
    refine ⟨s, hs, ?_⟩
    obtain ⟨w0, h13⟩ := wrd_kind hsz hlin
    obtain ⟨_, w1⟩ := lin_make hsz hlin (by rcases hk with ⟨e, _⟩ | ⟨e, _⟩ <;> simp [e])
    unfold mkd
    rw [w1, hp]
    rw [w0]
    have e3 : decide (x.pa.data.toList = pth x) = true := decide_eq_true rfl
    rw [e3, Bool.and_true]
    rcases hk with ⟨e, e2⟩ | ⟨e, e2⟩
    · rw [e, e2]; rfl
    · rw [e, e2]; rfl
/-- What the words of a right line are where one asks. -/
theorem mkd_words {ss : List ByteArray} (h : (chkF ss).2 = 0) {s : ByteArray} (hs : s ∈ ss) (hw : (wdL [] s.data.toList).getD 0 [] = [109, 97, 107, 101] ∨ (wdL [] s.data.toList).getD 0 [] = [114, 117, 110]) : (wdL [] s.data.toList).length = 3 := by
  obtain ⟨hsz, l, hl, hlin⟩ := chk_all h hs
  have hsz2 : s.data.toList.length ≤ 100000 := by rw [Array.length_toList]; exact hsz
  obtain ⟨w0, h13⟩ := wrd_kind hsz2 hlin
  refine (lin_make hsz2 hlin ?_).1
  rw [w0] at hw
  have key : ∀ j, j < 13 → (wrdL.getD j [] = [109, 97, 107, 101] ∨ wrdL.getD j [] = [114, 117, 110]) → j = 7 ∨ j = 8 := by decide
  exact key _ h13 hw
end Go.Proofs.YtapiedeekbfpnaaGreatDoor
