/- A text that is quoted is split into one token, plain. -/
import Derived.Test.YtheiijnpggabkaaGreatDoorTs10
namespace Go.Proofs.YtheiijnpggabkaaGreatDoor

/-- A byte that may stand in a text. -/
def okB (c : UInt8) : Bool := decide (32 ≤ c.toNat) || decide (c.toNat = 9) || decide (c.toNat = 10)
theorem pl_qt {c : UInt8} (h : isPl c = true) : qt1 c = [c] := by
  unfold isPl at h
  simp at h
  unfold qt1
  rw [if_neg (by omega), if_neg (by omega), if_neg (by omega)]
theorem npl_qt {c : UInt8} (h : isPl c = false) (ho : okB c = true) : ∃ d, qt1 c = [92, d] ∧ ((c.toNat = 10 ∧ d = 110) ∨ (c.toNat = 9 ∧ d = 116) ∨ ((c.toNat = 92 ∨ c.toNat = 34) ∧ d = c)) := by
  unfold qt1
  by_cases h1 : c.toNat = 10
  · exact ⟨110, by rw [if_pos h1], .inl ⟨h1, rfl⟩⟩
  · by_cases h2 : c.toNat = 9
    · exact ⟨116, by rw [if_neg h1, if_pos h2], .inr (.inl ⟨h2, rfl⟩)⟩
    · by_cases h3 : c.toNat = 92 ∨ c.toNat = 34
      · exact ⟨c, by rw [if_neg h1, if_neg h2, if_pos h3], .inr (.inr ⟨h3, rfl⟩)⟩
      · exfalso
        unfold isPl at h
        unfold okB at ho
        simp at h ho
        omega
/-- Bytes that stand for themselves come at once. -/
theorem run_qt : ∀ l : List UInt8, (∀ c ∈ l, okB c = true) → ∃ p r, l = p ++ r ∧ rch isPl (l.flatMap qt1 ++ [34]) = p.length ∧ (l.flatMap qt1 ++ [34]).take p.length = p ∧ (l.flatMap qt1 ++ [34]).drop p.length = r.flatMap qt1 ++ [34] ∧ (∀ c r', l = c :: r' → isPl c = true → p ≠ [])
  | [], _ => ⟨[], [], rfl, rfl, rfl, rfl, fun c r' h => by cases h⟩
  | c :: l, h => by
    cases hc : isPl c with
    | true =>
      obtain ⟨p, r, h1, h2, h3, h4, _⟩ := run_qt l (fun d hd => h d (by simp [hd]))
      refine ⟨c :: p, r, by rw [h1]; rfl, ?_, ?_, ?_, fun _ _ _ _ => by simp⟩
      · rw [List.flatMap_cons, pl_qt hc]
        show rch isPl (c :: (l.flatMap qt1 ++ [34])) = _
        unfold rch
        rw [hc, h2]
        rfl
      · rw [List.flatMap_cons, pl_qt hc]
        show c :: ((l.flatMap qt1 ++ [34]).take p.length) = _
        rw [h3]
      · rw [List.flatMap_cons, pl_qt hc]
        show (l.flatMap qt1 ++ [34]).drop p.length = _
        exact h4
    | false =>
      obtain ⟨d, hd, _⟩ := npl_qt hc (h c (by simp))
      refine ⟨[], c :: l, rfl, ?_, rfl, rfl, fun c' r' e hp => ?_⟩
      · rw [List.flatMap_cons, hd]
        show rch isPl (92 :: (d :: (l.flatMap qt1 ++ [34]))) = 0
        unfold rch
        rfl
      · cases e
        rw [hc] at hp
        cases hp
theorem txt_qt : ∀ (f : Nat) (l said : List UInt8) (at_ : Nat), (∀ c ∈ l, okB c = true) → (l.flatMap qt1).length < f → txt f (l.flatMap qt1 ++ [34]) said at_ = .ok (said ++ l, at_ + (l.flatMap qt1).length + 1)
  | 0, _, _, _, _, h => absurd h (Nat.not_lt_zero _)
  | f + 1, [], said, at_, _, _ => by
    unfold txt
    simp
  | f + 1, c :: l, said, at_, h, hf => by
    cases hc : isPl c with
    | false =>
      obtain ⟨d, hd, hcd⟩ := npl_qt hc (h c (by simp))
      have hl : ∀ c ∈ l, okB c = true := fun x hx => h x (by simp [hx])
      rw [List.flatMap_cons, hd] at hf ⊢
      simp only [List.length_append, List.length_cons, List.length_nil] at hf
      have hlen : at_ + ([92, d] ++ l.flatMap qt1).length + 1 = at_ + 2 + (l.flatMap qt1).length + 1 := by simp; omega
      rw [hlen]
      show txt (f + 1) (92 :: d :: (l.flatMap qt1 ++ [34])) said at_ = _
      unfold txt
      rcases hcd with ⟨h1, rfl⟩ | ⟨h1, rfl⟩ | ⟨h1, rfl⟩
      · have e : c = 10 := UInt8.toNat.inj h1
        subst e
        simp only [List.getD_cons_zero, List.drop_succ_cons, List.drop_zero]
        simp
        rw [txt_qt f l (said ++ [10]) (at_ + 2) hl (by omega)]
        simp
      · have e : c = 9 := UInt8.toNat.inj h1
        subst e
        simp only [List.getD_cons_zero, List.drop_succ_cons, List.drop_zero]
        simp
        rw [txt_qt f l (said ++ [9]) (at_ + 2) hl (by omega)]
        simp
      · have h110 : ¬ d.toNat = 110 := by omega
        have h116 : ¬ d.toNat = 116 := by omega
        simp only [List.getD_cons_zero, List.drop_succ_cons, List.drop_zero]
        simp [h110, h116, h1]
        rw [txt_qt f l (said ++ [d]) (at_ + 2) hl (by omega)]
        simp
    | true =>
      obtain ⟨p, r, h1, h2, h3, h4, h5⟩ := run_qt (c :: l) h
      have hp : p ≠ [] := h5 c l rfl hc
      have hp1 : 0 < p.length := List.length_pos_iff.2 hp
      have hpl : (r.flatMap qt1).length + 1 = ((c :: l).flatMap qt1 ++ [34]).length - p.length := by rw [← List.length_drop, h4]; simp
      have htk := congrArg List.length h3
      rw [List.length_take] at htk
      have hhead : (((c :: l).flatMap qt1 ++ [34]).getD 0 0) = c := by rw [List.flatMap_cons, pl_qt hc]; rfl
      have hpc : 32 ≤ c.toNat ∧ ¬ c.toNat = 34 ∧ ¬ c.toNat = 92 := by
        unfold isPl at hc
        simp at hc
        exact ⟨hc.1.1, hc.1.2, hc.2⟩
      have hsz : ((c :: l).flatMap qt1 ++ [34]).length = ((c :: l).flatMap qt1).length + 1 := by rw [List.length_append]; rfl
      unfold txt
      simp only [hhead]
      rw [if_neg (by simp), if_neg hpc.2.1, if_neg hpc.2.2, h2, if_neg (by omega), h3, h4, txt_qt f r (said ++ p) (at_ + p.length) (fun x hx => h x (by rw [h1]; simp [hx])) (by omega), h1]
      congr 2
      · simp
      · rw [← h1]
        omega
theorem split_qt (l : List UInt8) (h : ∀ c ∈ l, okB c = true) : splitL (qtL l) = .ok [⟨3, l, 0, 0⟩, ⟨6, [], 0, (qtL l).length⟩] := by
  have hlen : (qtL l).length = (l.flatMap qt1).length + 2 := by simp [qtL]
  have hd : (qtL l).drop 1 = l.flatMap qt1 ++ [34] := rfl
  have hg : (qtL l).getD 0 0 = 34 := rfl
  have hg2 : (qtL l)[0]? = some 34 := rfl
  have hr0 : ∀ o, rch (isBl o) (qtL l) = 0 := fun o => by
    show rch (isBl o) (34 :: _) = 0
    unfold rch
    simp [isBl]
  have hs0 : ∀ n, skp 0 n (qtL l) = 0 := fun n => by
    cases n with
    | zero => exact hr0 0
    | succ n =>
      unfold skp
      rw [hr0]
      simp [hg2]
  have hse : ∀ o n, skp o n [] = 0 := fun o n => by
    cases n <;> simp [skp, rch]
  have ht : tok1 (qtL l) ⟨0, [], [0], 0⟩ = .ok ⟨(qtL l).length, [⟨3, l, 0, 0⟩], [0], 0⟩ := by
    unfold tok1
    simp only [List.drop_zero, hg]
    rw [if_pos (by decide), hd, txt_qt _ l [] 1 h (by rw [hlen]; omega)]
    show Except.ok (⟨1 + (l.flatMap qt1).length + 1, [] ++ [⟨3, [] ++ l, 0, 0⟩], [0], 0⟩ : Sp) = _
    rw [hlen, show 1 + (l.flatMap qt1).length + 1 = (l.flatMap qt1).length + 2 from by omega]
    rfl
  have hre : refu (qtL l) ⟨0, [], [0], 0⟩ 0 = 0 := by
    unfold refu
    simp only [List.drop_zero, hg]
    have hb : beg (qtL l) = true := by unfold beg; rw [hg]; rfl
    rw [hb]
    simp [isCls, isDg, isOpn, Sp.top]
  have hc : ∀ n t, (⟨n, t, [0], 0⟩ : Sp).come 0 = ⟨n, t, [0], 0⟩ := fun n t => by
    unfold Sp.come
    simp [Sp.top, outF]
  have hk : Sp.skip (qtL l) ⟨0, [], [0], 0⟩ = ⟨0, [], [0], 0⟩ := by
    unfold Sp.skip
    simp [hs0]
  have hk2 : ∀ t, Sp.skip (qtL l) ⟨(qtL l).length, t, [0], 0⟩ = ⟨(qtL l).length, t, [0], 0⟩ := fun t => by
    unfold Sp.skip
    simp [hse]
  have hend : endL (qtL l) ⟨0, [], [0], 0⟩ = false := by
    unfold endL
    simp only [List.drop_zero, hg]
    rw [show decide (0 = (qtL l).length) = false from decide_eq_false (by omega)]
    rfl
  have hE : ∀ f t, toksF (qtL l) (f + 1) 0 ⟨(qtL l).length, t, [0], 0⟩ = .ok ⟨(qtL l).length, t, [0], 0⟩ := fun f t => by
    unfold toksF
    rw [if_pos (by simp [endL])]
  obtain ⟨f, hf⟩ : ∃ f, (qtL l).length = f + 1 := ⟨_, hlen⟩
  have hT0 : toksF (qtL l) (f + 1 + 1) 0 ⟨0, [], [0], 0⟩ = .ok ⟨(qtL l).length, [⟨3, l, 0, 0⟩], [0], 0⟩ := by
    unfold toksF
    rw [if_neg (by rw [hend]; simp), if_neg (by rw [hre]; simp), hc, ht]
    simp only [hk2]
    exact hE f _
  have hT : toksF (qtL l) ((qtL l).length + 1) 0 ⟨0, [], [0], 0⟩ = .ok ⟨(qtL l).length, [⟨3, l, 0, 0⟩], [0], 0⟩ := by
    have e : (qtL l).length + 1 = f + 1 + 1 := by rw [hf]
    rw [e]
    exact hT0
  have hL : lineF (qtL l) ⟨0, [], [0], 0⟩ = .ok ⟨(qtL l).length, [⟨3, l, 0, 0⟩, ⟨6, [], 0, (qtL l).length⟩], [0], 0⟩ := by
    unfold lineF
    simp only [List.drop_zero, hs0, hk, hT]
    simp [Sp.add]
  unfold splitL linesF
  rw [if_neg (by rw [hlen]; simp), hL]
  simp [hc]
end Go.Proofs.YtheiijnpggabkaaGreatDoor
