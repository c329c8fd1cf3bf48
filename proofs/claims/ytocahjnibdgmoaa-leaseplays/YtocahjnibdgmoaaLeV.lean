/- A book of leases, plain: what holds all the way; what each call comes to. -/
import Derived.Test.YtocahjnibdgmoaaLeO
namespace Go.Proofs.Ytocahjnibdgmoaa
open Go.RowKit Go.Shelf Go.Maps Go.WideMaps Go.Sort

structure PjOk (a b c nw : Int) (p : Pj) : Prop where
  wk : p.ts.Pairwise fun x y => x.1 < y.1
  sz : (p.ts.length : Int) ≤ c
  tr : (p.tr : Int) ≤ b
  dn : p.dn = true → p.ts = []
  one : p.ts ≠ [] → 1 ≤ p.tr
  rg : ∀ q ∈ p.ts, nw ≤ q.2 ∧ q.2 ≤ nw + a ∧ 1 ≤ q.1 ∧ q.1 ≤ 50
structure PI (a b c nw : Int) (P : List Pj) : Prop where
  ta : 1 ≤ a ∧ a ≤ 1000000000
  tb : 1 ≤ b ∧ b ≤ 10
  tc : 1 ≤ c ∧ c ≤ 5
  tn : 0 ≤ nw ∧ nw ≤ 1000000000
  up : P.Pairwise fun x y => x.nm ≤ y.nm
  ne : P.Pairwise fun x y => x.nm ≠ y.nm
  len : P.length ≤ 200
  each : ∀ p ∈ P, PjOk a b c nw p

theorem ins_mem (x : Int × Int) : ∀ (l : List (Int × Int)) (q : Int × Int), q ∈ insT x l ↔ q = x ∨ q ∈ l
  | [], q => by simp [insT]
  | y :: r, q => by
    unfold insT
    split
    · simp
    · rw [List.mem_cons, ins_mem x r q, List.mem_cons]
      constructor
      · rintro (h | h | h) <;> simp [h]
      · rintro (h | h | h) <;> simp [h]
theorem ins_len (x : Int × Int) : ∀ l : List (Int × Int), (insT x l).length = l.length + 1
  | [] => rfl
  | y :: r => by
    unfold insT
    split
    · rfl
    · rw [List.length_cons, ins_len x r, List.length_cons]
theorem ins_wk (x : Int × Int) : ∀ l : List (Int × Int), l.Pairwise (fun x y => x.1 < y.1) → (∀ q ∈ l, q.1 ≠ x.1) → (insT x l).Pairwise (fun x y => x.1 < y.1)
  | [], _, _ => by simp [insT]
  | y :: r, h, hn => by
    rw [List.pairwise_cons] at h
    unfold insT
    split
    · rename_i hlt
      refine List.pairwise_cons.2 ⟨fun z hz => ?_, List.pairwise_cons.2 h⟩
      rcases List.mem_cons.1 hz with rfl | hz
      · exact hlt
      · have := h.1 z hz
        omega
    · rename_i hlt
      refine List.pairwise_cons.2 ⟨fun z hz => ?_, ins_wk x r h.2 fun q hq => hn q (by simp [hq])⟩
      rcases (ins_mem x r z).1 hz with rfl | hz
      · have := hn y (by simp)
        omega
      · exact h.1 z hz
theorem has_mem {k : Int} {l : List (Int × Int)} : hasT k l = true ↔ ∃ q ∈ l, q.1 = k := by
  unfold hasT
  rw [List.any_eq_true]
  simp only [decide_eq_true_eq]
theorem off_len {k : Int} {l : List (Int × Int)} (h : hasT k l = true) : (offT k l).length + 1 ≤ l.length := by
  obtain ⟨q, hq, hk⟩ := has_mem.1 h
  obtain ⟨l1, l2, rfl⟩ := List.append_of_mem hq
  unfold offT
  rw [List.filter_append, List.filter_cons, if_neg (by simp [hk]), List.length_append, List.length_append, List.length_cons]
  have h1 := List.length_filter_le (fun p : Int × Int => decide (p.1 ≠ k)) l1
  have h2 := List.length_filter_le (fun p : Int × Int => decide (p.1 ≠ k)) l2
  omega
theorem off_no {k : Int} {l : List (Int × Int)} (h : hasT k l = false) : offT k l = l := by
  unfold offT
  refine List.filter_eq_self.2 fun q hq => ?_
  simp only [ne_eq, decide_not, Bool.not_eq_eq_eq_not, Bool.not_true, decide_eq_false_iff_not]
  intro e
  have := has_mem.2 ⟨q, hq, e⟩
  rw [h] at this
  cases this

section
variable {a b c nw now k : Int} {p : Pj}
theorem PjOk.cut (h : PjOk a b c nw p) (hn : nw ≤ now) : PjOk a b c now (cutP now p) :=
  ⟨h.wk.filter _, by have := List.length_filter_le (fun q : Int × Int => decide (now ≤ q.2)) p.ts; have := h.sz; show ((p.ts.filter _).length : Int) ≤ c; omega, h.tr, fun hd => by show p.ts.filter _ = []; rw [h.dn hd]; rfl, fun hne => h.one fun e => hne (by show p.ts.filter _ = []; rw [e]; rfl), fun q hq => by
    obtain ⟨h1, h2⟩ := List.mem_filter.1 hq
    have h3 := h.rg q h1
    have h4 : now ≤ q.2 := by simpa using h2
    exact ⟨h4, by omega, h3.2.2⟩⟩
theorem PjOk.off (h : PjOk a b c nw p) : PjOk a b c nw { p with ts := offT k p.ts } :=
  ⟨h.wk.filter _, by have := List.length_filter_le (fun q : Int × Int => decide (q.1 ≠ k)) p.ts; have := h.sz; show ((offT k p.ts).length : Int) ≤ c; unfold offT; omega, h.tr, fun hd => by show offT k p.ts = []; rw [h.dn hd]; rfl, fun hne => h.one fun e => hne (by show offT k p.ts = []; rw [e]; rfl), fun q hq => h.rg q (List.mem_filter.1 hq).1⟩
theorem PjOk.lent (h : PjOk a b c nw p) (ha : 1 ≤ a) (hd : p.dn = false) (t : Nat) (ht : (t : Int) ≤ b) (h1 : 1 ≤ t) (hs : ((offT k p.ts).length : Int) + 1 ≤ c) (hk : 1 ≤ k ∧ k ≤ 50) : PjOk a b c nw { p with tr := t, ts := insT (k, nw + a) (offT k p.ts) } :=
  ⟨ins_wk _ _ (h.wk.filter _) fun q hq => ((off_mem q).1 hq).2, by show ((insT _ _).length : Int) ≤ c; rw [ins_len]; omega, ht, fun e => (by rw [show p.dn = true from e] at hd; cases hd), fun _ => h1, fun q hq => by
    rcases (ins_mem _ _ q).1 hq with rfl | hq
    · exact ⟨by show nw ≤ nw + a; omega, Int.le_refl _, hk⟩
    · exact h.rg q ((off_mem q).1 hq).1⟩
end

section
variable {a b c nw now k : Int} {P : List Pj} {s : List UInt8}
theorem PI.sim {nw' : Int} {P' : List Pj} (h : PI a b c nw P) (hn : 0 ≤ nw' ∧ nw' ≤ 1000000000) (hm : P'.map Pj.nm = P.map Pj.nm) (he : ∀ p ∈ P', PjOk a b c nw' p) : PI a b c nw' P' :=
  ⟨h.ta, h.tb, h.tc, hn, by
    have := List.pairwise_map.2 h.up
    rw [← hm] at this
    exact List.pairwise_map.1 this, by
    have := List.pairwise_map.2 h.ne
    rw [← hm] at this
    exact List.pairwise_map.1 this, by have := congrArg List.length hm; simp at this; rw [this]; exact h.len, he⟩
theorem tell_facts {nb : Bool} (h : tellE nw now nb = 0) : 0 ≤ now ∧ now ≤ 1000000000 ∧ nb = false ∧ nw ≤ now := by
  unfold tellE at h
  split at h
  · cases h
  · rename_i h1
    split at h
    · cases h
    · exact ⟨by omega, by omega, by cases nb with | false => rfl | true => exact absurd (.inr (.inr rfl)) h1, by omega⟩
theorem nobody_rg (h : nobody k = false) : 1 ≤ k ∧ k ≤ 50 := by
  unfold nobody at h
  simp at h
  omega
theorem PI.tell (h : PI a b c nw P) (now : Int) (nb : Bool) : PI a b c (tellN nw now nb) (tellP nw now nb P) := by
  unfold tellN tellP
  by_cases e : tellE nw now nb = 0
  · rw [if_pos e, if_pos e]
    obtain ⟨h1, h2, _, h3⟩ := tell_facts e
    refine h.sim ⟨h1, h2⟩ (by rw [List.map_map]; rfl) fun p hp => ?_
    obtain ⟨q, hq, rfl⟩ := List.mem_map.1 hp
    exact (h.each q hq).cut h3
  · rw [if_neg e, if_neg e]
    exact h
theorem fnd_mem {P : List Pj} {s : List UInt8} {p : Pj} (h : fndP P s = some p) : p ∈ P ∧ p.nm = s := by
  unfold fndP at h
  exact ⟨List.mem_of_find?_eq_some h, by have := List.find?_some h; simpa using this⟩
theorem set_nm (P : List Pj) (s : List UInt8) (f : Pj → Pj) (hf : ∀ p, (f p).nm = p.nm) : (setP P s f).map Pj.nm = P.map Pj.nm := by
  unfold setP
  rw [List.map_map]
  refine List.map_congr_left fun p _ => ?_
  show (if p.nm = s then f p else p).nm = p.nm
  split
  · exact hf p
  · rfl
theorem PI.set (h : PI a b c nw P) {p : Pj} (hp : fndP P s = some p) (f : Pj → Pj) (hf : ∀ p, (f p).nm = p.nm) (hfp : PjOk a b c nw (f p)) : PI a b c nw (setP P s f) := by
  refine h.sim h.tn (set_nm P s f hf) fun q hq => ?_
  obtain ⟨r, hr, rfl⟩ := List.mem_map.1 hq
  split
  · rename_i hs
    obtain ⟨h1, h2⟩ := fnd_mem hp
    have : r = p := by
      by_cases e : r = p
      · exact e
      · have hne := h.ne
        exact absurd (hs.trans h2.symm) (by
          obtain ⟨i, hi, ei⟩ := List.mem_iff_getElem.1 hr
          obtain ⟨j, hj, ej⟩ := List.mem_iff_getElem.1 h1
          rw [List.pairwise_iff_getElem] at hne
          rcases Nat.lt_trichotomy i j with hij | hij | hij
          · rw [← ei, ← ej]; exact hne i j hi hj hij
          · subst hij; exact absurd (ei.symm.trans ej) e
          · rw [← ei, ← ej]; exact (hne j i hj hi hij).symm)
    rw [this]
    exact hfp
  · exact h.each r hr
end

/-- What each call answers, and what it leaves. -/
def grF (k t : Int) (p : Pj) : Pj := { p with tr := p.tr + 1, ts := insT (k, t) (offT k p.ts) }
def beF (k t : Int) (p : Pj) : Pj := { p with ts := insT (k, t) (offT k p.ts) }
def doF (k : Int) (g : Bool) (p : Pj) : Pj := if g = true then { p with dn := true, ts := [] } else { p with ts := offT k p.ts }
def refP (b c k : Int) (p : Pj) : Int := refC (lst p.dn p.ts.length p.tr b) p.ts.length p.tr b c (hasT k p.ts)
def grE (b c nw : Int) (P : List Pj) (s : List UInt8) (k now : Int) : Int := if tellE nw now (nobody k) ≠ 0 then tellE nw now (nobody k) else match fndP (tellP nw now (nobody k) P) s with
  | none => 5
  | some p => refP b c k p
def leE (nw : Int) (P : List Pj) (s : List UInt8) (k now : Int) : Int := if tellE nw now (nobody k) ≠ 0 then tellE nw now (nobody k) else match fndP (tellP nw now (nobody k) P) s with
  | none => 5
  | some p => if hasT k p.ts = true then 0 else 5
def grP (a b c nw : Int) (P : List Pj) (s : List UInt8) (k now : Int) : List Pj := if grE b c nw P s k now = 0 then setP (tellP nw now (nobody k) P) s (grF k (now + a)) else tellP nw now (nobody k) P
def beP (a nw : Int) (P : List Pj) (s : List UInt8) (k now : Int) : List Pj := if leE nw P s k now = 0 then setP (tellP nw now (nobody k) P) s (beF k (now + a)) else tellP nw now (nobody k) P
def doP (nw : Int) (P : List Pj) (s : List UInt8) (k now : Int) (g : Bool) : List Pj := if leE nw P s k now = 0 then setP (tellP nw now (nobody k) P) s (doF k g) else tellP nw now (nobody k) P

section
variable {a b c nw now k : Int} {P : List Pj} {s : List UInt8}
theorem grE_zero (h : grE b c nw P s k now = 0) : tellE nw now (nobody k) = 0 ∧ ∃ p, fndP (tellP nw now (nobody k) P) s = some p ∧ refP b c k p = 0 := by
  unfold grE at h
  split at h
  · rename_i h1; exact absurd h h1
  · rename_i h1
    refine ⟨by simpa using h1, ?_⟩
    split at h
    · cases h
    · rename_i p hp; exact ⟨p, hp, h⟩
theorem leE_zero (h : leE nw P s k now = 0) : tellE nw now (nobody k) = 0 ∧ ∃ p, fndP (tellP nw now (nobody k) P) s = some p ∧ hasT k p.ts = true := by
  unfold leE at h
  split at h
  · rename_i h1; exact absurd h h1
  · rename_i h1
    refine ⟨by simpa using h1, ?_⟩
    split at h
    · cases h
    · rename_i p hp
      refine ⟨p, hp, ?_⟩
      split at h
      · assumption
      · cases h
theorem refP_zero {p : Pj} (h : refP b c k p = 0) : p.dn = false ∧ hasT k p.ts = false ∧ (p.ts.length : Int) < c ∧ (p.tr : Int) < b := by
  unfold refP refC at h
  split at h
  · cases h
  · rename_i h1
    split at h
    · cases h
    · rename_i h2
      split at h
      · cases h
      · rename_i h3
        refine ⟨?_, by simpa using h2, by omega, by omega⟩
        cases hd : p.dn with
        | false => rfl
        | true => exact absurd (.inl (by unfold lst; rw [if_pos hd])) h1
theorem tellN_zero {nb : Bool} (h : tellE nw now nb = 0) : tellN nw now nb = now := by unfold tellN; rw [if_pos h]
theorem PI.grant (h : PI a b c nw P) (s : List UInt8) (k now : Int) : PI a b c (tellN nw now (nobody k)) (grP a b c nw P s k now) := by
  have ht := h.tell now (nobody k)
  unfold grP
  split
  · rename_i h0
    obtain ⟨h1, p, h2, h3⟩ := grE_zero h0
    obtain ⟨r1, r2, r3, r4⟩ := refP_zero h3
    obtain ⟨_, _, h4, _⟩ := tell_facts h1
    have hp := ht.each p (fnd_mem h2).1
    refine ht.set h2 _ (fun _ => rfl) ?_
    have := hp.lent (k := k) h.ta.1 r1 (p.tr + 1) (by omega) (by omega) (by rw [off_no r2]; omega) (nobody_rg h4)
    rw [tellN_zero h1] at this ⊢
    exact this
  · exact ht
theorem PI.beat (h : PI a b c nw P) (s : List UInt8) (k now : Int) : PI a b c (tellN nw now (nobody k)) (beP a nw P s k now) := by
  have ht := h.tell now (nobody k)
  unfold beP
  split
  · rename_i h0
    obtain ⟨h1, p, h2, h3⟩ := leE_zero h0
    obtain ⟨_, _, h4, _⟩ := tell_facts h1
    have hp := ht.each p (fnd_mem h2).1
    refine ht.set h2 _ (fun _ => rfl) ?_
    have hne : p.ts ≠ [] := fun e => by rw [e] at h3; cases h3
    have hd : p.dn = false := by
      cases hd : p.dn with
      | false => rfl
      | true => exact absurd (hp.dn hd) hne
    have hl := off_len h3
    have hs := hp.sz
    have := hp.lent (k := k) h.ta.1 hd p.tr hp.tr (hp.one hne) (by omega) (nobody_rg h4)
    rw [tellN_zero h1] at this ⊢
    exact this
  · exact ht
theorem PI.done (h : PI a b c nw P) (s : List UInt8) (k now : Int) (g : Bool) : PI a b c (tellN nw now (nobody k)) (doP nw P s k now g) := by
  have ht := h.tell now (nobody k)
  unfold doP
  split
  · rename_i h0
    obtain ⟨h1, p, h2, h3⟩ := leE_zero h0
    have hp := ht.each p (fnd_mem h2).1
    refine ht.set h2 _ (fun p => by unfold doF; split <;> rfl) ?_
    unfold doF
    split
    · exact ⟨by simp, by have := h.tc; show ((0 : Nat) : Int) ≤ c; omega, hp.tr, fun _ => rfl, fun e => absurd rfl e, fun q hq => (by cases hq)⟩
    · exact hp.off
  · exact ht
end

/-- A job is added. -/
def insP (x : Pj) : List Pj → List Pj
  | [] => [x]
  | y :: r => if x.nm < y.nm then x :: y :: r else y :: insP x r
theorem insP_pl (x : Ent) : ∀ l : List Ent, (insE x l).map pl = insP (pl x) (l.map pl)
  | [] => rfl
  | y :: r => by
    unfold insE
    rw [List.map_cons]
    unfold insP
    show List.map pl (if x.nm < y.nm then _ else _) = if x.nm < y.nm then _ else _
    split
    · rfl
    · rw [List.map_cons, insP_pl x r]
theorem insP_perm (x : Pj) : ∀ l : List Pj, (insP x l).Perm (x :: l)
  | [] => .refl _
  | y :: r => by
    unfold insP
    split
    · exact .refl _
    · exact ((insP_perm x r).cons y).trans (.swap x y r)
theorem insP_up (x : Pj) : ∀ l : List Pj, l.Pairwise (fun x y => x.nm ≤ y.nm) → (insP x l).Pairwise (fun x y => x.nm ≤ y.nm)
  | [], _ => by unfold insP; simp
  | y :: r, h => by
    rw [List.pairwise_cons] at h
    unfold insP
    split
    · rename_i hlt
      rw [List.pairwise_cons, List.pairwise_cons]
      refine ⟨fun z hz => ?_, h⟩
      rcases List.mem_cons.1 hz with rfl | hz
      · exact List.le_of_lt hlt
      · exact List.le_trans (List.le_of_lt hlt) (h.1 z hz)
    · rename_i hlt
      rw [List.pairwise_cons]
      refine ⟨fun z hz => ?_, insP_up x r h.2⟩
      rcases List.mem_cons.1 ((insP_perm x r).mem_iff.1 hz) with rfl | hz
      · exact List.not_lt.1 hlt
      · exact h.1 z hz
def adE (P : List Pj) (s : ByteArray) : Int := if nameOk s = false then 1 else if fndP P s.data.toList ≠ none then 6 else if 200 ≤ P.length then 2 else 0
def adP (P : List Pj) (s : ByteArray) : List Pj := if adE P s = 0 then insP ⟨s.data.toList, false, 0, []⟩ P else P
theorem fnd_no {P : List Pj} {s : List UInt8} (h : fndP P s = none) : ∀ p ∈ P, p.nm ≠ s := fun p hp e => by
  unfold fndP at h
  have := List.find?_eq_none.1 h p hp
  simp [e] at this
theorem adE_zero {P : List Pj} {s : ByteArray} (h : adE P s = 0) : nameOk s = true ∧ fndP P s.data.toList = none ∧ P.length < 200 := by
  unfold adE at h
  split at h
  · cases h
  · rename_i h1
    split at h
    · cases h
    · rename_i h2
      split at h
      · cases h
      · exact ⟨by simpa using h1, by simpa using h2, by omega⟩
theorem PI.add {a b c nw : Int} {P : List Pj} (h : PI a b c nw P) (s : ByteArray) : PI a b c nw (adP P s) := by
  unfold adP
  split
  · rename_i h0
    obtain ⟨h1, h2, h3⟩ := adE_zero h0
    have hp := insP_perm ⟨s.data.toList, false, 0, []⟩ P
    refine ⟨h.ta, h.tb, h.tc, h.tn, insP_up _ _ h.up, ?_, by rw [hp.length_eq, List.length_cons]; omega, fun p hp2 => ?_⟩
    · refine hp.symm.pairwise (List.pairwise_cons.2 ⟨fun q hq e => fnd_no h2 q hq e.symm, h.ne⟩) (fun {x y} h e => h e.symm)
    · rcases List.mem_cons.1 (hp.mem_iff.1 hp2) with rfl | hp2
      · exact ⟨List.Pairwise.nil, by have := h.tc; show ((0 : Nat) : Int) ≤ c; omega, by have := h.tb; show ((0 : Nat) : Int) ≤ b; omega, fun _ => rfl, fun e => absurd rfl e, fun q hq => (by cases hq)⟩
      · exact h.each p hp2
  · exact h
theorem PI.new {a b c : Int} (ha : 1 ≤ a ∧ a ≤ 1000000000) (hb : 1 ≤ b ∧ b ≤ 10) (hc : 1 ≤ c ∧ c ≤ 5) : PI a b c 0 [] := ⟨ha, hb, hc, ⟨by omega, by omega⟩, .nil, .nil, Nat.zero_le _, fun p hp => (by cases hp)⟩
end Go.Proofs.Ytocahjnibdgmoaa
