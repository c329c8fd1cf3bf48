/- The document's book: granted, beaten, done, plain. -/
import Derived.Test.YtocahjnibdgmoaaLpW
namespace Go.Proofs.Ytocahjnibdgmoaa
open Go.RowKit Go.Shelf Go.Sort

section
variable {b : Int} {P : List Pj} {d : Db} {s : List UInt8} {p : Pj} {k : Nat}
theorem Sim.idx (h : Sim b P d) (hf : fndP P s = some p) : ∃ k, ∃ hk : k < d.N.length, d.N[k] = s ∧ fidx (fun x => decide (x = s)) d.N = (k : Int) ∧ (d.S.getD k 0 : Int) = lst p.dn p.ts.length p.tr b ∧ d.T.getD k 0 = p.tr := by
  obtain ⟨h1, h2⟩ := fnd_mem hf
  obtain ⟨k, hk, hn, hi⟩ := fidx_mem (h.in_ p h1)
  rw [h2] at hn hi
  obtain ⟨q, hq, hS, hT⟩ := h.at_ k hk
  rw [hn, hf] at hq
  injection hq with hq
  subst hq
  exact ⟨k, hk, hn, hi, hS, hT⟩
theorem Sim.noidx (h : Sim b P d) (hf : fndP P s = none) : fidx (fun x => decide (x = s)) d.N = -1 := by
  refine fidx_nomem fun hm => ?_
  obtain ⟨k, hk, e⟩ := List.getElem_of_mem hm
  obtain ⟨q, hq, _⟩ := h.at_ k hk
  rw [e, hf] at hq
  cases hq
theorem Sim.upd (h : Sim b P d) (hf : fndP P s = some p) (hk : k < d.N.length) (hn : d.N[k] = s) (f : Pj → Pj) (hfn : ∀ p, (f p).nm = p.nm) (S' T' : List Nat) (hS1 : S'.length = d.S.length) (hT1 : T'.length = d.T.length) (hS2 : ∀ j, j ≠ k → S'.getD j 0 = d.S.getD j 0) (hT2 : ∀ j, j ≠ k → T'.getD j 0 = d.T.getD j 0) (hS3 : (S'.getD k 0 : Int) = lst (f p).dn (f p).ts.length (f p).tr b) (hT3 : T'.getD k 0 = (f p).tr) (A' : List (List UInt8 × Int × Int)) (hA : A'.Perm (lsP (setP P s f))) (nw : Int) :
    Sim b (setP P s f) ⟨nw, d.N, S', T', A'⟩ := by
  refine ⟨h.nd, by rw [hS1]; exact h.sl, by rw [hT1]; exact h.tl, by rw [h.ln]; unfold setP; simp, fun j hj => ?_, fun q hq => ?_, hA⟩
  · have hj : j < d.N.length := hj
    obtain ⟨q, hq1, hq2, hq3⟩ := h.at_ j hj
    show ∃ p_1, fndP (setP P s f) d.N[j] = some p_1 ∧ _
    by_cases e : j = k
    · subst e
      rw [hn] at hq1 ⊢
      refine ⟨f p, ?_, hS3, hT3⟩
      rw [fnd_set hfn, hf]
      show some (if p.nm = s then f p else p) = _
      rw [if_pos (fnd_mem hf).2]
    · have hnj : d.N[j] ≠ s := fun e2 => e (nodup_idx h.nd hj hk (e2.trans hn.symm))
      refine ⟨q, ?_, by rw [hS2 j e]; exact hq2, by rw [hT2 j e]; exact hq3⟩
      rw [fnd_set hfn, hq1]
      show some (if q.nm = s then f q else q) = _
      rw [if_neg (by rw [(fnd_mem hq1).2]; exact hnj)]
  · obtain ⟨z, hz, rfl⟩ := List.mem_map.1 hq
    have := h.in_ z hz
    split
    · rw [hfn]; exact this
    · exact this

theorem ins_perm (x : Int × Int) : ∀ l : List (Int × Int), (insT x l).Perm (x :: l)
  | [] => .refl _
  | y :: r => by
    unfold insT
    split
    · exact .refl _
    · exact ((ins_perm x r).cons y).trans (.swap x y r)
theorem lsP_add : ∀ (P : List Pj) (s : List UInt8) (p : Pj) (f : Pj → Pj) (q : Int × Int), P.Pairwise (fun x y => x.nm ≠ y.nm) → fndP P s = some p → (f p).nm = p.nm → (f p).ts.Perm (q :: p.ts) → (lsP (setP P s f)).Perm ((s, q.1, q.2) :: lsP P)
  | [], _, _, _, _, _, h, _, _ => by cases h
  | z :: r, s, p, f, q, hpw, hf, hfn, hp => by
    rw [List.pairwise_cons] at hpw
    by_cases e : z.nm = s
    · have hz : z = p := by
        unfold fndP at hf
        rw [List.find?_cons, show (z.nm == s) = true from beq_iff_eq.2 e] at hf
        injection hf
      subst hz
      have hs : setP (z :: r) s f = f z :: r := by
        have := setP_none (P := r) (s := s) (f := f) fun y hy => by rw [← e]; exact (hpw.1 y hy).symm
        unfold setP at this ⊢
        rw [List.map_cons, this, if_pos e]
      rw [hs, lsP_cons, lsP_cons, hfn, e]
      have := hp.map fun t => (s, t.1, t.2)
      rw [List.map_cons] at this
      exact this.append_right (lsP r)
    · have hf2 : fndP r s = some p := by
        unfold fndP at hf ⊢
        rw [List.find?_cons, show (z.nm == s) = false from beq_eq_false_iff_ne.2 e] at hf
        exact hf
      have ih := lsP_add r s p f q hpw.2 hf2 hfn hp
      have hs : setP (z :: r) s f = z :: setP r s f := by
        unfold setP
        rw [List.map_cons, if_neg e]
      rw [hs, lsP_cons, lsP_cons]
      exact (ih.append_left _).trans List.perm_middle
theorem lsP_clear : ∀ (P : List Pj) (s : List UInt8) (f : Pj → Pj), (∀ p, (f p).ts = []) → lsP (setP P s f) = (lsP P).filter fun x => decide (x.1 ≠ s)
  | [], _, _, _ => rfl
  | z :: r, s, f, hf => by
    have ih := lsP_clear r s f hf
    unfold setP at ih ⊢
    rw [List.map_cons, lsP_cons, lsP_cons, ih, List.filter_append]
    congr 1
    by_cases e : z.nm = s
    · rw [if_pos e, hf]
      rw [List.filter_eq_nil_iff.2]
      · rfl
      · intro x hx
        obtain ⟨q, _, rfl⟩ := List.mem_map.1 hx
        simpa using e
    · rw [if_neg e, List.filter_eq_self.2]
      intro x hx
      obtain ⟨q, _, rfl⟩ := List.mem_map.1 hx
      simpa using e

theorem Sim.grant (h : Sim b P d) (ho : PO b P) (hf : fndP P s = some p) (hk : k < d.N.length) (hn : d.N[k] = s) (q t : Int) (hh : hasT q p.ts = false) (hd : p.dn = false) (nw : Int) :
    Sim b (setP P s (grF q t)) ⟨nw, d.N, d.S.set k 2, d.T.set k (p.tr + 1), d.A ++ [(s, q, t)]⟩ := by
  have hkS : k < d.S.length := by rw [h.sl]; exact hk
  have hkT : k < d.T.length := by rw [h.tl]; exact hk
  refine h.upd hf hk hn (grF q t) (fun _ => rfl) _ _ (by simp) (by simp) (fun j hj => by rw [getD_set hkS, if_neg (Ne.symm hj)]) (fun j hj => by rw [getD_set hkT, if_neg (Ne.symm hj)]) ?_ (by rw [getD_set hkT, if_pos rfl]; rfl) _ ?_ nw
  · rw [getD_set hkS, if_pos rfl]
    have hl : 0 < ((grF q t p).ts.length : Int) := by show 0 < ((insT (q, t) (offT q p.ts)).length : Int); rw [ins_len]; omega
    unfold lst
    rw [if_neg (by show ¬ p.dn = true; rw [hd]; decide), if_pos hl]
    rfl
  · have := lsP_add P s p (grF q t) (q, t) ho.ne hf rfl (by show (insT (q, t) (offT q p.ts)).Perm _; rw [off_no hh]; exact ins_perm _ _)
    exact (List.perm_append_singleton _ _).trans ((h.perm.cons _).trans this.symm)
theorem Sim.beat (h : Sim b P d) (ho : PO b P) (hf : fndP P s = some p) (hk : k < d.N.length) (hn : d.N[k] = s) (hS : (d.S.getD k 0 : Int) = lst p.dn p.ts.length p.tr b) (hT : d.T.getD k 0 = p.tr) {i : Nat} (hi : i < d.A.length) (q t : Int) (hA1 : (d.A[i]).1 = s) (hA2 : (d.A[i]).2.1 = q) (nw : Int) :
    Sim b (setP P s (beF q t)) ⟨nw, d.N, d.S, d.T, d.A.set i (s, q, t)⟩ := by
  have hm : d.A[i] ∈ lsP P := h.perm.mem_iff.1 (List.getElem_mem hi)
  have hcp := cutL_perm hi
  obtain ⟨p2, hp2, hpn, hpt⟩ := mem_lsP.1 hm
  have hpp : p2 = p := by
    have := fnd_inO ho.ne hp2
    rw [hpn, hA1, hf] at this
    injection this with this
    exact this.symm
  subst hpp
  have hne : p2.ts ≠ [] := fun e => by rw [e] at hpt; cases hpt
  obtain ⟨hl2, hdn⟩ := lst_no (b := b) hne (ho.dn p2 hp2)
  have hw := ho.wk p2 hp2
  refine h.upd hf hk hn (beF q t) (fun _ => rfl) _ _ rfl rfl (fun _ _ => rfl) (fun _ _ => rfl) ?_ hT _ ?_ nw
  · rw [hS, hl2]
    have hl : 0 < ((beF q t p2).ts.length : Int) := by show 0 < ((insT (q, t) (offT q p2.ts)).length : Int); rw [ins_len]; omega
    unfold lst
    rw [if_neg (by show ¬ p2.dn = true; rw [hdn]; decide), if_pos hl]
  · have h1 := lsP_off P s (d.A[i]).2 p2 ho.ne hf hpt hw
    have hfo : fndP (setP P s (offP q)) s = some (offP q p2) := by
      rw [fnd_set (f := offP q) (fun _ => rfl), hf]
      show some (if p2.nm = s then _ else _) = _
      rw [if_pos (fnd_mem hf).2]
    have hpo : (setP P s (offP q)).Pairwise (fun x y => x.nm ≠ y.nm) := by
      have := List.pairwise_map.2 ho.ne
      rw [← set_nm P s (offP q) (fun _ => rfl)] at this
      exact List.pairwise_map.1 this
    have h2 := lsP_add (setP P s (offP q)) s (offP q p2) (fun p => { p with ts := insT (q, t) p.ts }) (q, t) hpo hfo rfl (ins_perm _ _)
    have h3 : setP (setP P s (offP q)) s (fun p => { p with ts := insT (q, t) p.ts }) = setP P s (beF q t) := by
      unfold setP
      rw [List.map_map]
      refine List.map_congr_left fun z _ => ?_
      show (if (if z.nm = s then offP q z else z).nm = s then _ else _) = _
      by_cases e : z.nm = s
      · simp only [if_pos e]
        rw [if_pos (show (offP q z).nm = s from e)]
        rfl
      · simp only [if_neg e]
    rw [h3] at h2
    have hx : d.A[i] = (s, (d.A[i]).2.1, (d.A[i]).2.2) := by rw [← hA1]
    have h4 : (cutL d.A i).Perm (lsP (setP P s (offP q))) := by
      rw [hA2] at h1
      refine (hcp.symm.trans (h.perm.trans ?_)).cons_inv
      rw [hx, hA2]
      exact h1
    have h5 : (d.A.set i (s, q, t)).Perm ((s, q, t) :: cutL d.A i) := by
      unfold cutL
      rw [List.set_eq_take_append_cons_drop, if_pos hi]
      exact List.perm_middle
    exact h5.trans ((h4.cons _).trans h2.symm)
theorem Sim.good (h : Sim b P d) (hf : fndP P s = some p) (hk : k < d.N.length) (hn : d.N[k] = s) (hT : d.T.getD k 0 = p.tr) (q : Int) (nw : Int) :
    Sim b (setP P s (doF q true)) ⟨nw, d.N, d.S.set k 3, d.T, d.A.filter fun x => decide (x.1 ≠ s)⟩ := by
  have hkS : k < d.S.length := by rw [h.sl]; exact hk
  refine h.upd hf hk hn (doF q true) (fun _ => rfl) _ _ (by simp) rfl (fun j hj => by rw [getD_set hkS, if_neg (Ne.symm hj)]) (fun _ _ => rfl) ?_ hT _ ?_ nw
  · rw [getD_set hkS, if_pos rfl]
    rfl
  · rw [lsP_clear P s (doF q true) (fun _ => rfl)]
    exact h.perm.filter _
theorem doF_off (q : Int) : doF q false = offP q := by
  funext p
  rfl
/-- A lease of a worker. -/
theorem Sim.has (h : Sim b P d) (ho : PO b P) (s : List UInt8) (q : Int) : (fidx (isL s q) d.A = -1 ∧ ∀ p, fndP P s = some p → hasT q p.ts = false) ∨ ∃ i, ∃ hi : i < d.A.length, fidx (isL s q) d.A = (i : Int) ∧ (d.A[i]).1 = s ∧ (d.A[i]).2.1 = q ∧ ∃ p, fndP P s = some p ∧ hasT q p.ts = true := by
  cases e : d.A.findIdx? (isL s q) with
  | none =>
    left
    refine ⟨by unfold fidx; rw [e], fun p hp => ?_⟩
    cases hh : hasT q p.ts with
    | false => rfl
    | true =>
      obtain ⟨z, hz, hzq⟩ := has_mem.1 hh
      have hm : ((s, z.1, z.2) : List UInt8 × Int × Int) ∈ d.A := h.perm.mem_iff.2 (mem_lsP.2 ⟨p, (fnd_mem hp).1, (fnd_mem hp).2, hz⟩)
      have := List.findIdx?_eq_none_iff.1 e _ hm
      simp [isL, hzq] at this
  | some i =>
    right
    obtain ⟨hi, h1, _⟩ := List.findIdx?_eq_some_iff_getElem.1 e
    have h2 : (d.A[i]).1 = s ∧ (d.A[i]).2.1 = q := by unfold isL at h1; simpa using h1
    refine ⟨i, hi, by unfold fidx; rw [e], h2.1, h2.2, ?_⟩
    obtain ⟨p, hp, hpn, hpt⟩ := mem_lsP.1 (h.perm.mem_iff.1 (List.getElem_mem hi))
    refine ⟨p, ?_, has_mem.2 ⟨_, hpt, h2.2⟩⟩
    rw [← h2.1, ← hpn]
    exact fnd_inO ho.ne hp
end
end Go.Proofs.Ytocahjnibdgmoaa
