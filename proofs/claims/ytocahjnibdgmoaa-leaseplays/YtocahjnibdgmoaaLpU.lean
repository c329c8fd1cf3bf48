/- The document's book: time is told, plain. -/
import Derived.Test.YtocahjnibdgmoaaLpS
namespace Go.Proofs.Ytocahjnibdgmoaa
open Go.RowKit Go.Shelf Go.Sort

/-- Those that last, or are still to come. -/
def fTs (now : Int) (rest : List (List UInt8 × Int × Int)) (p : Pj) : List (Int × Int) := p.ts.filter fun q => decide (now ≤ q.2) || decide ((p.nm, q.1, q.2) ∈ rest)
def fPj (now : Int) (rest : List (List UInt8 × Int × Int)) (p : Pj) : Pj := { p with ts := fTs now rest p }
def fPl (now : Int) (rest : List (List UInt8 × Int × Int)) (P : List Pj) : List Pj := P.map (fPj now rest)
/-- The jobs of which none is left by now. -/
def gone (now : Int) (rest : List (List UInt8 × Int × Int)) (p : Pj) : Bool := decide (p.ts ≠ []) && decide (fTs now rest p = [])
def outs (now : Int) (rest : List (List UInt8 × Int × Int)) (P : List Pj) : List (List UInt8) := (P.filter (gone now rest)).map Pj.nm

section
variable {now : Int} {rest : List (List UInt8 × Int × Int)} {P : List Pj} {x : List UInt8 × Int × Int}
theorem fTs_all {p : Pj} (hp : p ∈ P) (h : ∀ x ∈ lsP P, x ∈ rest) : fTs now rest p = p.ts := by
  unfold fTs
  refine List.filter_eq_self.2 fun q hq => ?_
  rw [decide_eq_true (h (p.nm, q.1, q.2) (mem_lsP.2 ⟨p, hp, rfl, hq⟩))]
  simp
theorem fP_all (h : ∀ x ∈ lsP P, x ∈ rest) : fPl now rest P = P := by
  unfold fPl
  conv => rhs; rw [← List.map_id P]
  exact List.map_congr_left fun p hp => by
    show fPj now rest p = p
    unfold fPj
    rw [fTs_all hp h]
theorem fTs_nil (p : Pj) : fTs now [] p = p.ts.filter fun q => decide (now ≤ q.2) := by
  unfold fTs
  exact List.filter_congr fun q _ => by simp
theorem fP_nil : fPl now [] P = P.map (cutP now) := by
  unfold fPl
  exact List.map_congr_left fun p _ => by unfold fPj cutP; rw [fTs_nil]
theorem fTs_keep (hx : now ≤ x.2.2) (p : Pj) : fTs now (x :: rest) p = fTs now rest p := by
  unfold fTs
  refine List.filter_congr fun q _ => ?_
  by_cases e : (p.nm, q.1, q.2) = x
  · have : now ≤ q.2 := by rw [← e] at hx; exact hx
    simp [this]
  · simp [e]
theorem fP_keep (hx : now ≤ x.2.2) : fPl now (x :: rest) P = fPl now rest P := by
  unfold fPl
  exact List.map_congr_left fun p _ => by unfold fPj; rw [fTs_keep hx]
theorem outs_all (h : ∀ x ∈ lsP P, x ∈ rest) : outs now rest P = [] := by
  unfold outs
  rw [List.filter_eq_nil_iff.2 (fun p hp => ?_)]
  · rfl
  · unfold gone
    rw [fTs_all hp h]
    simp
theorem outs_nil : outs now [] P = (P.filter (freesP now)).map Pj.nm := by
  unfold outs
  congr 1
  refine List.filter_congr fun p _ => ?_
  unfold gone freesP
  rw [fTs_nil]
  rw [Bool.eq_iff_iff]
  simp only [Bool.and_eq_true, decide_eq_true_eq, List.length_eq_zero_iff, List.length_pos_iff]
theorem outs_keep (hx : now ≤ x.2.2) : outs now (x :: rest) P = outs now rest P := by
  unfold outs
  congr 1
  exact List.filter_congr fun p _ => by unfold gone; rw [fTs_keep hx]

/-- One that is over goes. -/
theorem fTs_drop (hw : ∀ p ∈ P, p.ts.Pairwise fun x y => x.1 < y.1) (hne : P.Pairwise fun x y => x.nm ≠ y.nm) (hx : ¬ now ≤ x.2.2) (hr : x ∉ rest) (hin : x ∈ lsP P) {p : Pj} (hp : p ∈ P) : fTs now rest p = if p.nm = x.1 then offT x.2.1 (fTs now (x :: rest) p) else fTs now (x :: rest) p := by
  obtain ⟨p0, hp0, hn0, ht0⟩ := mem_lsP.1 hin
  split
  · rename_i e
    have hpp : p = p0 := by
      have h1 := fnd_inO hne hp
      have h2 := fnd_inO hne hp0
      rw [e, ← hn0, h2] at h1
      injection h1 with h1
      exact h1.symm
    subst hpp
    unfold fTs offT
    rw [List.filter_filter]
    refine List.filter_congr fun q hq => ?_
    by_cases ek : q.1 = x.2.1
    · have hqx : q = x.2 := ts_one (hw p hp) hq ht0 ek
      have e2 : (p.nm, q.1, q.2) = x := by rw [hqx, e]
      have h3 : ¬ now ≤ q.2 := by rw [hqx]; exact hx
      rw [e2]
      simp [ek, h3, hr]
    · have e2 : (p.nm, q.1, q.2) ≠ x := fun h => ek (by rw [← h])
      simp [ek, e2]
  · rename_i e
    unfold fTs
    refine List.filter_congr fun q _ => ?_
    have e2 : (p.nm, q.1, q.2) ≠ x := fun h => e (by rw [← h])
    simp [e2]
theorem fP_drop (hw : ∀ p ∈ P, p.ts.Pairwise fun x y => x.1 < y.1) (hne : P.Pairwise fun x y => x.nm ≠ y.nm) (hx : ¬ now ≤ x.2.2) (hr : x ∉ rest) (hin : x ∈ lsP P) : fPl now rest P = setP (fPl now (x :: rest) P) x.1 (offP x.2.1) := by
  unfold fPl setP
  rw [List.map_map]
  refine List.map_congr_left fun p hp => ?_
  show fPj now rest p = if (fPj now (x :: rest) p).nm = x.1 then offP x.2.1 (fPj now (x :: rest) p) else fPj now (x :: rest) p
  have := fTs_drop (rest := rest) hw hne hx hr hin hp
  by_cases e : p.nm = x.1
  · rw [if_pos (show (fPj now (x :: rest) p).nm = x.1 from e)]
    rw [if_pos e] at this
    unfold fPj offP
    rw [this]
  · rw [if_neg (show ¬ (fPj now (x :: rest) p).nm = x.1 from e)]
    rw [if_neg e] at this
    unfold fPj
    rw [this]
theorem PO.fP {b : Int} (h : PO b P) (rest : List (List UInt8 × Int × Int)) : PO b (fPl now rest P) := by
  refine ⟨List.pairwise_map.2 h.ne, fun p hp => ?_, fun p hp => ?_, fun p hp => ?_⟩
  all_goals obtain ⟨q, hq, rfl⟩ := List.mem_map.1 hp
  · exact (h.wk q hq).filter _
  · exact h.tr q hq
  · exact fun hd => by show fTs now rest q = []; unfold fTs; rw [h.dn q hq hd]; rfl

theorem gone_other (hw : ∀ p ∈ P, p.ts.Pairwise fun x y => x.1 < y.1) (hne : P.Pairwise fun x y => x.nm ≠ y.nm) (hx : ¬ now ≤ x.2.2) (hr : x ∉ rest) (hin : x ∈ lsP P) {p : Pj} (hp : p ∈ P) (e : p.nm ≠ x.1) : gone now rest p = gone now (x :: rest) p := by
  have := fTs_drop (rest := rest) hw hne hx hr hin hp
  rw [if_neg e] at this
  unfold gone
  rw [this]
theorem mem_outs (hne : P.Pairwise fun x y => x.nm ≠ y.nm) {s : List UInt8} : s ∈ outs now rest P ↔ ∃ p, fndP P s = some p ∧ gone now rest p = true := by
  unfold outs
  rw [List.mem_map]
  constructor
  · rintro ⟨p, hp, rfl⟩
    exact ⟨p, fnd_inO hne (List.mem_filter.1 hp).1, (List.mem_filter.1 hp).2⟩
  · rintro ⟨p, h1, h2⟩
    exact ⟨p, List.mem_filter.2 ⟨(fnd_mem h1).1, h2⟩, (fnd_mem h1).2⟩
theorem outs_nd (hne : P.Pairwise fun x y => x.nm ≠ y.nm) : (outs now rest P).Nodup := List.pairwise_map.2 (hne.filter _)
theorem outs_up (hup : P.Pairwise fun x y => x.nm ≤ y.nm) : (outs now rest P).Pairwise fun x y => x ≤ y := List.pairwise_map.2 (hup.filter _)
/-- .. and its job is told, if none is left. -/
theorem outs_drop {p0 : Pj} (hw : ∀ p ∈ P, p.ts.Pairwise fun x y => x.1 < y.1) (hne : P.Pairwise fun x y => x.nm ≠ y.nm) (hx : ¬ now ≤ x.2.2) (hr : x ∉ rest) (hin : x ∈ lsP P) (hf : fndP (fPl now (x :: rest) P) x.1 = some p0) (ht : x.2 ∈ p0.ts) :
    (offT x.2.1 p0.ts ≠ [] → outs now rest P = outs now (x :: rest) P) ∧ (offT x.2.1 p0.ts = [] → x.1 ∉ outs now (x :: rest) P ∧ ∀ s, s ∈ outs now rest P ↔ s = x.1 ∨ s ∈ outs now (x :: rest) P) := by
  unfold fPl at hf
  rw [fnd_map (fPj now (x :: rest)) (fun _ => rfl)] at hf
  cases hq : fndP P x.1 with
  | none => rw [hq] at hf; cases hf
  | some q =>
    rw [hq] at hf
    injection hf with hf
    subst hf
    have hqm := fnd_mem hq
    have hd := fTs_drop (rest := rest) hw hne hx hr hin hqm.1
    rw [if_pos hqm.2] at hd
    have hb : gone now (x :: rest) q = false := by
      unfold gone
      have : fTs now (x :: rest) q ≠ [] := fun e => by rw [show (fPj now (x :: rest) q).ts = fTs now (x :: rest) q from rfl, e] at ht; cases ht
      simp [this]
    have hqt : q.ts ≠ [] := fun e => by
      have h1 : fTs now (x :: rest) q = [] := by unfold fTs; rw [e]; rfl
      rw [show (fPj now (x :: rest) q).ts = fTs now (x :: rest) q from rfl, h1] at ht
      cases ht
    have hg : gone now rest q = decide (offT x.2.1 (fTs now (x :: rest) q) = []) := by
      unfold gone
      rw [hd]
      simp [hqt]
    refine ⟨fun he => ?_, fun he => ⟨fun hm => ?_, fun s => ?_⟩⟩
    · unfold outs
      congr 1
      refine List.filter_congr fun p hp => ?_
      by_cases e : p.nm = x.1
      · have hpq : p = q := by
          have h1 := fnd_inO hne hp
          rw [e, hq] at h1
          injection h1 with h1
          exact h1.symm
        subst hpq
        rw [hb, hg]
        exact decide_eq_false he
      · exact gone_other hw hne hx hr hin hp e
    · obtain ⟨p, h1, h2⟩ := (mem_outs hne).1 hm
      rw [hq] at h1
      injection h1 with h1
      subst h1
      rw [hb] at h2
      cases h2
    · rw [mem_outs hne, mem_outs hne]
      by_cases e : s = x.1
      · subst e
        constructor
        · exact fun _ => .inl rfl
        · exact fun _ => ⟨q, hq, by rw [hg]; exact decide_eq_true he⟩
      · constructor
        · rintro ⟨p, h1, h2⟩
          refine .inr ⟨p, h1, ?_⟩
          rw [← gone_other hw hne hx hr hin (fnd_mem h1).1 (by rw [(fnd_mem h1).2]; exact e)]
          exact h2
        · rintro (h | ⟨p, h1, h2⟩)
          · exact absurd h e
          · refine ⟨p, h1, ?_⟩
            rw [gone_other hw hne hx hr hin (fnd_mem h1).1 (by rw [(fnd_mem h1).2]; exact e)]
            exact h2
end
/-- Where a text goes among those that rise. -/
theorem ins_sorted {O O2 : List (List UInt8)} {s : List UInt8} {k : Nat} (hk : k ≤ O.length) (h1 : ∀ (j : Nat) (hj : j < O.length), j < k → O[j] < s) (h2 : ∀ hk : k < O.length, ¬ O[k] < s) (hup : O.Pairwise fun x y => x ≤ y) (hnd : O.Nodup) (hs : s ∉ O) (hup2 : O2.Pairwise fun x y => x ≤ y) (hnd2 : O2.Nodup) (hm : ∀ x, x ∈ O2 ↔ x = s ∨ x ∈ O) : O.take k ++ s :: O.drop k = O2 := by
  have hp1 : (O.take k ++ s :: O.drop k).Perm (s :: O) := by
    have := List.perm_middle (a := s) (l₁ := O.take k) (l₂ := O.drop k)
    rwa [List.take_append_drop] at this
  have hp2 : O2.Perm (s :: O) := (List.perm_ext_iff_of_nodup hnd2 (List.nodup_cons.2 ⟨hs, hnd⟩)).2 fun x => by rw [hm]; simp
  have hgt : ∀ x ∈ O.drop k, s ≤ x := fun x hx => by
    obtain ⟨j, hj, rfl⟩ := List.getElem_of_mem hx
    rw [List.length_drop] at hj
    rw [List.getElem_drop]
    have h3 : s ≤ O[k] := List.not_lt.1 (h2 (by omega))
    rw [List.pairwise_iff_getElem] at hup
    by_cases e : j = 0
    · subst e; exact h3
    · exact List.le_trans h3 (hup k (k + j) (by omega) (by omega) (by omega))
  have hlt : ∀ x ∈ O.take k, x ≤ s := fun x hx => by
    obtain ⟨j, hj, rfl⟩ := List.getElem_of_mem hx
    rw [List.length_take] at hj
    rw [List.getElem_take]
    exact List.le_of_lt (h1 j (by omega) (by omega))
  refine List.Perm.eq_of_pairwise (le := fun x y => x ≤ y) (fun x y _ _ h3 h4 => List.le_antisymm h3 h4) ?_ hup2 (hp1.trans hp2.symm)
  rw [List.pairwise_append, List.pairwise_cons]
  have hup3 := hup
  rw [← List.take_append_drop k O, List.pairwise_append] at hup3
  refine ⟨hup3.1, ⟨hgt, hup3.2.1⟩, fun x hx y hy => ?_⟩
  rcases List.mem_cons.1 hy with rfl | hy
  · exact hlt x hx
  · exact hup3.2.2 x hx y hy
end Go.Proofs.Ytocahjnibdgmoaa
