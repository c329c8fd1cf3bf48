/- The program's book and the document's tell the same, plain. -/
import Derived.Test.YtocahjnibdgmoaaLpT
namespace Go.Proofs.Ytocahjnibdgmoaa
open Go.RowKit Go.Shelf Go.Sort

structure Sim (b : Int) (P : List Pj) (d : Db) : Prop where
  nd : d.N.Nodup
  sl : d.S.length = d.N.length
  tl : d.T.length = d.N.length
  ln : d.N.length = P.length
  at_ : ∀ (k : Nat) (hk : k < d.N.length), ∃ p, fndP P d.N[k] = some p ∧ (d.S.getD k 0 : Int) = lst p.dn p.ts.length p.tr b ∧ d.T.getD k 0 = p.tr
  in_ : ∀ p ∈ P, p.nm ∈ d.N
  perm : d.A.Perm (lsP P)
structure PO (b : Int) (P : List Pj) : Prop where
  ne : P.Pairwise fun x y => x.nm ≠ y.nm
  wk : ∀ p ∈ P, p.ts.Pairwise fun x y => x.1 < y.1
  tr : ∀ p ∈ P, (p.tr : Int) ≤ b
  dn : ∀ p ∈ P, p.dn = true → p.ts = []
theorem PI.po {a b c nw : Int} {P : List Pj} (h : PI a b c nw P) : PO b P := ⟨h.ne, fun p hp => (h.each p hp).wk, fun p hp => (h.each p hp).tr, fun p hp => (h.each p hp).dn⟩

theorem fidx_mem {N : List (List UInt8)} {s : List UInt8} (h : s ∈ N) : ∃ (k : Nat) (hk : k < N.length), N[k] = s ∧ fidx (fun x => decide (x = s)) N = (k : Int) := by
  cases e : N.findIdx? (fun x => decide (x = s)) with
  | none =>
    have := List.findIdx?_eq_none_iff.1 e s h
    simp at this
  | some k =>
    obtain ⟨hk, h1, h2⟩ := List.findIdx?_eq_some_iff_getElem.1 e
    exact ⟨k, hk, by simpa using h1, by unfold fidx; rw [e]⟩
theorem fidx_nomem {N : List (List UInt8)} {s : List UInt8} (h : s ∉ N) : fidx (fun x => decide (x = s)) N = -1 :=
  fidx_miss fun _ hj => decide_eq_false fun e => h (e ▸ List.getElem_mem hj)

def offP (k : Int) (p : Pj) : Pj := { p with ts := offT k p.ts }
theorem ts_one {l : List (Int × Int)} (h : l.Pairwise fun x y => x.1 < y.1) {p q : Int × Int} (hp : p ∈ l) (hq : q ∈ l) (e : p.1 = q.1) : p = q := by
  obtain ⟨i, hi, ei⟩ := List.mem_iff_getElem.1 hp
  obtain ⟨j, hj, ej⟩ := List.mem_iff_getElem.1 hq
  rw [List.pairwise_iff_getElem] at h
  rcases Nat.lt_trichotomy i j with hij | hij | hij
  · have := h i j hi hj hij; rw [ei, ej] at this; omega
  · subst hij; exact ei.symm.trans ej
  · have := h j i hj hi hij; rw [ei, ej] at this; omega
theorem ts_off {l : List (Int × Int)} (h : l.Pairwise fun x y => x.1 < y.1) {q : Int × Int} (hq : q ∈ l) : l.Perm (q :: offT q.1 l) := by
  have h1 := h
  obtain ⟨l1, l2, rfl⟩ := List.append_of_mem hq
  rw [List.pairwise_append, List.pairwise_cons] at h1
  obtain ⟨_, ⟨h3, _⟩, h5⟩ := h1
  have e1 : offT q.1 l1 = l1 := List.filter_eq_self.2 fun x hx => by have := h5 x hx q (by simp); simp; omega
  have e2 : offT q.1 l2 = l2 := List.filter_eq_self.2 fun x hx => by have := h3 x hx; simp; omega
  have : offT q.1 (l1 ++ q :: l2) = l1 ++ l2 := by
    unfold offT at e1 e2 ⊢
    rw [List.filter_append, List.filter_cons, if_neg (by simp), e1, e2]
  rw [this]
  exact List.perm_middle
theorem setP_none {P : List Pj} {s : List UInt8} {f : Pj → Pj} (h : ∀ p ∈ P, p.nm ≠ s) : setP P s f = P := by
  unfold setP
  conv => rhs; rw [← List.map_id P]
  exact List.map_congr_left fun p hp => by show (if p.nm = s then f p else p) = p; rw [if_neg (h p hp)]
theorem lsP_cons (p : Pj) (r : List Pj) : lsP (p :: r) = (p.ts.map fun q => (p.nm, q.1, q.2)) ++ lsP r := by unfold lsP; rw [List.flatMap_cons]
theorem lsP_off : ∀ (P : List Pj) (nm : List UInt8) (q : Int × Int) (p : Pj), P.Pairwise (fun x y => x.nm ≠ y.nm) → fndP P nm = some p → q ∈ p.ts → p.ts.Pairwise (fun x y => x.1 < y.1) → (lsP P).Perm ((nm, q.1, q.2) :: lsP (setP P nm (offP q.1)))
  | [], _, _, _, _, h, _, _ => by cases h
  | z :: r, nm, q, p, hpw, hf, hq, hw => by
    rw [List.pairwise_cons] at hpw
    by_cases e : z.nm = nm
    · have hz : z = p := by
        unfold fndP at hf
        rw [List.find?_cons, show (z.nm == nm) = true from beq_iff_eq.2 e] at hf
        injection hf
      subst hz
      have hs : setP (z :: r) nm (offP q.1) = offP q.1 z :: r := by
        have := setP_none (P := r) (s := nm) (f := offP q.1) fun y hy => by rw [← e]; exact (hpw.1 y hy).symm
        unfold setP at this ⊢
        rw [List.map_cons, this, if_pos e]
      rw [hs, lsP_cons, lsP_cons, ← e]
      have := (ts_off hw hq).map fun t => (z.nm, t.1, t.2)
      rw [List.map_cons] at this
      exact this.append_right (lsP r)
    · have hf2 : fndP r nm = some p := by
        unfold fndP at hf ⊢
        rw [List.find?_cons, show (z.nm == nm) = false from beq_eq_false_iff_ne.2 e] at hf
        exact hf
      have ih := lsP_off r nm q p hpw.2 hf2 hq hw
      have hs : setP (z :: r) nm (offP q.1) = z :: setP r nm (offP q.1) := by
        unfold setP
        rw [List.map_cons, if_neg e]
      rw [hs, lsP_cons, lsP_cons]
      exact (ih.append_left _).trans List.perm_middle
theorem cnt_perm {A B : List (List UInt8 × Int × Int)} (h : A.Perm B) (nm : List UInt8) : cntL A nm = cntL B nm := (h.filter _).length_eq
theorem mem_lsP {P : List Pj} {x : List UInt8 × Int × Int} : x ∈ lsP P ↔ ∃ p ∈ P, p.nm = x.1 ∧ x.2 ∈ p.ts := by
  unfold lsP
  rw [List.mem_flatMap]
  constructor
  · rintro ⟨p, hp, hx⟩
    obtain ⟨q, hq, rfl⟩ := List.mem_map.1 hx
    exact ⟨p, hp, rfl, hq⟩
  · rintro ⟨p, hp, h1, h2⟩
    exact ⟨p, hp, List.mem_map.2 ⟨x.2, h2, by rw [h1]⟩⟩
theorem fnd_inO {P : List Pj} (h : P.Pairwise fun x y => x.nm ≠ y.nm) {p : Pj} (hp : p ∈ P) : fndP P p.nm = some p := by
  induction P with
  | nil => cases hp
  | cons y r ih =>
    rw [List.pairwise_cons] at h
    unfold fndP
    rw [List.find?_cons]
    by_cases e : y.nm = p.nm
    · rw [show (y.nm == p.nm) = true from beq_iff_eq.2 e]
      rcases List.mem_cons.1 hp with rfl | hp
      · rfl
      · exact absurd e (h.1 p hp)
    · rw [show (y.nm == p.nm) = false from beq_eq_false_iff_ne.2 e]
      rcases List.mem_cons.1 hp with rfl | hp
      · exact absurd rfl e
      · exact ih h.2 hp
theorem fnd_set {P : List Pj} {s nm : List UInt8} {f : Pj → Pj} (hf : ∀ p, (f p).nm = p.nm) : fndP (setP P nm f) s = (fndP P s).map fun p => if p.nm = nm then f p else p :=
  fnd_map (fun p => if p.nm = nm then f p else p) fun p => by
    show (if p.nm = nm then f p else p).nm = p.nm
    split
    · exact hf p
    · rfl
theorem PO.set {b : Int} {P : List Pj} (h : PO b P) (nm : List UInt8) (f : Pj → Pj) (hf : ∀ p, (f p).nm = p.nm) (h1 : ∀ p ∈ P, (f p).ts.Pairwise fun x y => x.1 < y.1) (h2 : ∀ p ∈ P, ((f p).tr : Int) ≤ b) (h3 : ∀ p ∈ P, (f p).dn = true → (f p).ts = []) : PO b (setP P nm f) := by
  refine ⟨?_, fun p hp => ?_, fun p hp => ?_, fun p hp => ?_⟩
  · have := List.pairwise_map.2 h.ne
    rw [← set_nm P nm f hf] at this
    exact List.pairwise_map.1 this
  all_goals
    obtain ⟨q, hq, rfl⟩ := List.mem_map.1 hp
    split
  · exact h1 q hq
  · exact h.wk q hq
  · exact h2 q hq
  · exact h.tr q hq
  · exact h3 q hq
  · exact h.dn q hq

theorem nodup_idx {l : List (List UInt8)} (h : l.Nodup) {i j : Nat} (hi : i < l.length) (hj : j < l.length) (e : l[i] = l[j]) : i = j := by
  unfold List.Nodup at h
  rw [List.pairwise_iff_getElem] at h
  rcases Nat.lt_trichotomy i j with hij | hij | hij
  · exact absurd e (h i j hi hj hij)
  · exact hij
  · exact absurd e.symm (h j i hj hi hij)
theorem cutL_perm {l : List (List UInt8 × Int × Int)} {i : Nat} (h : i < l.length) : l.Perm (l[i] :: cutL l i) := by
  unfold cutL
  conv => lhs; rw [← List.take_append_drop i l, List.drop_eq_getElem_cons h]
  exact List.perm_middle

section
variable {b : Int} {P : List Pj} {d : Db}
theorem lst_no {p : Pj} {b : Int} (h : p.ts ≠ []) (hd : p.dn = true → p.ts = []) : lst p.dn p.ts.length p.tr b = 2 ∧ p.dn = false := by
  have hd2 : p.dn = false := by
    cases e : p.dn with
    | false => rfl
    | true => exact absurd (hd e) h
  have hl : 0 < (p.ts.length : Int) := by have := List.length_pos_iff.2 h; omega
  exact ⟨by unfold lst; rw [if_neg (by rw [hd2]; decide), if_pos hl], hd2⟩
theorem getD_set {l : List Nat} {k j u : Nat} (hk : k < l.length) : (l.set k u).getD j 0 = if k = j then u else l.getD j 0 := by
  simp only [List.getD_eq_getElem?_getD, List.getElem?_set]
  by_cases e : k = j
  · subst e
    simp [hk]
  · simp [e]
/-- A lease is dropped. -/
theorem Sim.drop {i : Nat} (h : Sim b P d) (ho : PO b P) (hi : i < d.A.length) : ∃ k p, k < d.N.length ∧ fidx (fun x => decide (x = (d.A[i]).1)) d.N = (k : Int) ∧ fndP P (d.A[i]).1 = some p ∧ (d.A[i]).2 ∈ p.ts ∧ drpB d i k (d.A[i]).1 = decide (offT (d.A[i]).2.1 p.ts = []) ∧ Sim b (setP P (d.A[i]).1 (offP (d.A[i]).2.1)) (drpD b d i k (d.A[i]).1) := by
  have hm : d.A[i] ∈ lsP P := h.perm.mem_iff.1 (List.getElem_mem hi)
  have hcp := cutL_perm hi
  generalize d.A[i] = x at hm hcp ⊢
  obtain ⟨nm, wk, tl⟩ := x
  obtain ⟨p, hp, hpn, hpt⟩ := mem_lsP.1 hm
  simp only at hpn hpt ⊢
  subst hpn
  have hf := fnd_inO ho.ne hp
  obtain ⟨k, hk, hkn, hkf⟩ := fidx_mem (h.in_ p hp)
  have hne : p.ts ≠ [] := fun e => by rw [e] at hpt; cases hpt
  obtain ⟨hl2, hdn⟩ := lst_no (b := b) hne (ho.dn p hp)
  have hlo := lsP_off P p.nm (wk, tl) p ho.ne hf hpt (ho.wk p hp)
  have hperm : (cutL d.A i).Perm (lsP (setP P p.nm (offP wk))) := (hcp.symm.trans (h.perm.trans hlo)).cons_inv
  have hset : fndP (setP P p.nm (offP wk)) p.nm = some (offP wk p) := by
    rw [fnd_set (f := offP wk) (fun _ => rfl), hf]
    show some (if p.nm = p.nm then offP wk p else p) = _
    rw [if_pos rfl]
  have hpo : PO b (setP P p.nm (offP wk)) := ho.set p.nm (offP wk) (fun _ => rfl) (fun q hq => (ho.wk q hq).filter _) (fun q hq => ho.tr q hq) (fun q hq hd => by show offT wk q.ts = []; rw [ho.dn q hq hd]; rfl)
  have hcnt : cntL (cutL d.A i) p.nm = (offT wk p.ts).length := (cnt_perm hperm p.nm).trans (cnt_eq _ _ _ hpo.ne hset)
  obtain ⟨p2, hp2, hS, hT⟩ := h.at_ k hk
  rw [hkn, hf] at hp2
  injection hp2 with hp2
  subst hp2
  rw [hl2] at hS
  have hS2 : d.S.getD k 0 = 2 := by omega
  have hB : drpB d i k p.nm = decide (offT wk p.ts = []) := by
    unfold drpB
    rw [hcnt, hS2]
    simp
  refine ⟨k, p, hk, hkf, hf, hpt, hB, ?_⟩
  have hin : ∀ q ∈ setP P p.nm (offP wk), q.nm ∈ d.N := fun q hq => by
    obtain ⟨z, hz, rfl⟩ := List.mem_map.1 hq
    have := h.in_ z hz
    split
    · exact this
    · exact this
  have hln : d.N.length = (setP P p.nm (offP wk)).length := by rw [h.ln]; unfold setP; simp
  unfold drpD
  rw [hB]
  by_cases he : offT wk p.ts = []
  · rw [if_pos (decide_eq_true he)]
    refine ⟨h.nd, by simpa using h.sl, h.tl, hln, fun j hj => ?_, hin, hperm⟩
    obtain ⟨q, hq1, hq2, hq3⟩ := h.at_ j hj
    have hj : j < d.N.length := hj
    show ∃ p_1, fndP (setP P p.nm (offP wk)) d.N[j] = some p_1 ∧ _
    by_cases ej : k = j
    · subst ej
      rw [hkn] at hq1 ⊢
      refine ⟨offP wk p, hset, ?_, by rw [hT]; rfl⟩
      rw [getD_set (by rw [h.sl]; exact hk), if_pos rfl]
      have htr := ho.tr p hp
      have hl0 : lst (offP wk p).dn (offP wk p).ts.length (offP wk p).tr b = if b ≤ (p.tr : Int) then 4 else 1 := by
        show lst p.dn ((offT wk p.ts).length : Int) (p.tr : Int) b = _
        rw [he]
        unfold lst
        rw [if_neg (by rw [hdn]; decide), if_neg (by decide)]
      rw [hl0, hT]
      by_cases e4 : (p.tr : Int) = b
      · rw [if_pos e4, if_pos (by omega)]; rfl
      · rw [if_neg e4, if_neg (by omega)]; rfl
    · have hnj : d.N[j] ≠ p.nm := fun e => ej (nodup_idx h.nd hk hj (hkn.trans e.symm))
      refine ⟨q, ?_, by rw [getD_set (by rw [h.sl]; exact hk), if_neg ej]; exact hq2, hq3⟩
      rw [fnd_set (f := offP wk) (fun _ => rfl), hq1]
      show some (if q.nm = p.nm then _ else q) = _
      rw [if_neg (by rw [(fnd_mem hq1).2]; exact hnj)]
  · rw [if_neg (by rw [decide_eq_false he]; decide)]
    refine ⟨h.nd, h.sl, h.tl, hln, fun j hj => ?_, hin, hperm⟩
    obtain ⟨q, hq1, hq2, hq3⟩ := h.at_ j hj
    have hj : j < d.N.length := hj
    show ∃ p_1, fndP (setP P p.nm (offP wk)) d.N[j] = some p_1 ∧ _
    by_cases ej : k = j
    · subst ej
      rw [hkn] at hq1 ⊢
      refine ⟨offP wk p, hset, ?_, by rw [hT]; rfl⟩
      show (d.S.getD k 0 : Int) = _
      rw [hS2, (lst_no (p := offP wk p) (b := b) he (fun hd => by rw [show p.dn = true from hd] at hdn; cases hdn)).1]
      rfl
    · have hnj : d.N[j] ≠ p.nm := fun e => ej (nodup_idx h.nd hk hj (hkn.trans e.symm))
      refine ⟨q, ?_, hq2, hq3⟩
      rw [fnd_set (f := offP wk) (fun _ => rfl), hq1]
      show some (if q.nm = p.nm then _ else q) = _
      rw [if_neg (by rw [(fnd_mem hq1).2]; exact hnj)]
end
end Go.Proofs.Ytocahjnibdgmoaa
