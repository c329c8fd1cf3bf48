/- Depths, plain: what the document's own rounds come to. -/
import Derived.Test.YtankaiopdbcndaaGreatDoorGc9M
namespace Go.Proofs.YtankaiopdbcndaaGreatDoor
open Go.RowKit Go.Shelf Go.Maps
/-- While depths are raised: rounds below r are done, targets below i, needs below k of target i. -/
structure Rx (E : Nat → List Nat) (C : Nat → Prop) (D : Nat → Int) (n r i k t : Nat) (d : Nat → Int) : Prop where
  lo : ∀ j, j < n → 0 ≤ d j ∧ d j ≤ (t : Int)
  up : ∀ j, j < n → C j → d j ≤ D j
  old : ∀ j, j < n → C j → D j ≤ (r : Int) → d j = D j
  here : ∀ j, j < i → j < n → C j → D j ≤ (r : Int) + 1 → d j = D j
  cur : i < n → C i → D i ≤ (r : Int) + 1 → ∀ m ∈ (E i).take k, D m + 1 ≤ d i
/-- How deep those of a cone are. -/
structure DpOk (E : Nat → List Nat) (C : Nat → Prop) (D : Nat → Int) (n : Nat) : Prop where
  nn : ∀ i, 0 ≤ D i
  cl : ∀ i, i < n → C i → ∀ m ∈ E i, m < n ∧ C m ∧ D m + 1 ≤ D i
  ex : ∀ i, i < n → C i → D i = 0 ∨ ∃ m ∈ E i, D i = D m + 1
def updD (d : Nat → Int) (i : Nat) (v : Int) : Nat → Int := fun j => if j = i then v else d j
section
variable {E : Nat → List Nat} {C : Nat → Prop} {D : Nat → Int} {n r i k t : Nat} {d : Nat → Int}
theorem Rx.first (h : DpOk E C D n) : Rx E C D n 0 0 0 t (fun _ => 0) :=
  ⟨fun _ _ => ⟨Int.le_refl _, by omega⟩, fun j _ _ => h.nn j, fun j _ _ h1 => by have := h.nn j; simp at h1; omega, fun j hj => absurd hj (Nat.not_lt_zero _), fun _ _ _ m hm => by simp at hm⟩
theorem Rx.step (h : Rx E C D n r i k t d) (hD : DpOk E C D n) (hi : i < n) (hk : k < (E i).length) (hm : (E i)[k] < n) : Rx E C D n r i (k + 1) (t + 1) (updD d i (max (d i) (1 + d (E i)[k]))) := by
  have hmem : (E i)[k] ∈ E i := List.getElem_mem hk
  refine ⟨fun j hj => ?_, fun j hj hc => ?_, fun j hj hc hr => ?_, fun j hji hj hc hr => ?_, fun _ hc hr m hm2 => ?_⟩
  · have h1 := h.lo j hj
    have h2 := h.lo _ hm
    unfold updD
    split
    · rename_i e
      subst e
      omega
    · omega
  · unfold updD
    split
    · rename_i e
      subst e
      obtain ⟨h1, h2, h3⟩ := hD.cl j hj hc _ hmem
      have h4 := h.up j hj hc
      have h5 := h.up _ h1 h2
      omega
    · exact h.up j hj hc
  · unfold updD
    split
    · rename_i e
      subst e
      obtain ⟨h1, h2, h3⟩ := hD.cl j hj hc _ hmem
      have h4 := h.old j hj hc hr
      have h5 := h.up _ h1 h2
      omega
    · exact h.old j hj hc hr
  · unfold updD
    rw [if_neg (by omega)]
    exact h.here j hji hj hc hr
  · unfold updD
    rw [if_pos rfl]
    rw [List.take_succ_eq_append_getElem hk, List.mem_append] at hm2
    rcases hm2 with hm2 | hm2
    · have := h.cur hi hc hr m hm2
      omega
    · rw [List.mem_singleton.1 hm2]
      obtain ⟨h1, h2, h3⟩ := hD.cl i hi hc _ hmem
      have := h.old _ h1 h2 (by omega)
      omega
theorem Rx.next (h : Rx E C D n r i (E i).length t d) (hD : DpOk E C D n) (hi : i < n) : Rx E C D n r (i + 1) 0 t d := by
  refine ⟨h.lo, h.up, h.old, fun j hji hj hc hr => ?_, fun _ _ _ m hm => by simp at hm⟩
  rcases (show j < i ∨ j = i by omega) with e | e
  · exact h.here j e hj hc hr
  · subst e
    have h1 := h.up j hj hc
    have h2 := (h.lo j hj).1
    rcases hD.ex j hj hc with h3 | ⟨m, hm, h3⟩
    · omega
    · have h4 := h.cur hi hc hr m (by rw [List.take_length]; exact hm)
      omega
theorem Rx.round (h : Rx E C D n r n 0 t d) : Rx E C D n (r + 1) 0 0 t d :=
  ⟨h.lo, h.up, fun j hj hc hr => h.here j hj hj hc (by omega), fun j hj => absurd hj (Nat.not_lt_zero _), fun _ _ _ m hm => by simp at hm⟩
theorem Rx.mono (h : Rx E C D n r i k t d) {t2 : Nat} (ht : t ≤ t2) : Rx E C D n r i k t2 d := ⟨fun j hj => ⟨(h.lo j hj).1, by have := (h.lo j hj).2; omega⟩, h.up, h.old, h.here, h.cur⟩
end
theorem dpI_val (x : List UInt8) (f : List UInt8 → Int) (nl : List ByteArray) (hy : ∀ y ∈ nl, tl y ≠ x) : (∀ y ∈ nl, f (tl y) + 1 ≤ dpI x nl f x) ∧ (dpI x nl f x = f x ∨ ∃ y ∈ nl, dpI x nl f x = f (tl y) + 1) ∧ f x ≤ dpI x nl f x := by
  refine snocInd (P := fun nl => (∀ y ∈ nl, tl y ≠ x) → (∀ y ∈ nl, f (tl y) + 1 ≤ dpI x nl f x) ∧ (dpI x nl f x = f x ∨ ∃ y ∈ nl, dpI x nl f x = f (tl y) + 1) ∧ f x ≤ dpI x nl f x) (fun _ => ⟨(fun y hy => by cases hy), .inl rfl, Int.le_refl _⟩) (fun l a ih => ?_) nl hy
  intro h
  obtain ⟨h1, h2, h3⟩ := ih fun y hy => h y (List.mem_append_left _ hy)
  have ha : dpI x l f a.data.toList = f (tl a) := dpI_other x (tl a) (h a (by simp)) l f
  have e : dpI x (l ++ [a]) f x = max (dpI x l f x) (f (tl a) + 1) := by
    rw [dpI_snoc]
    unfold updI
    rw [if_pos rfl, ha]
  rw [e]
  refine ⟨fun y hy => ?_, ?_, by omega⟩
  · rcases List.mem_append.1 hy with hy | hy
    · have := h1 y hy; omega
    · rw [List.mem_singleton.1 hy]; omega
  · by_cases hc : dpI x l f x ≤ f (tl a) + 1
    · exact .inr ⟨a, by simp, by omega⟩
    · rcases h2 with h2 | ⟨y, hy, h2⟩
      · left; omega
      · exact .inr ⟨y, List.mem_append_left _ hy, by omega⟩
theorem dpF_done {nf : List UInt8 → List ByteArray} {ks : List (List UInt8)} {o : List ByteArray} (h : Kn ks (ndT nf) ltK (o.map tl)) {k : List UInt8} (m : Nat) (hk : k ∈ (o.take m).map tl) : ∀ n, m ≤ n → n ≤ o.length → dpF nf (o.take n) k = dpF nf (o.take m) k := fun n hmn hn => by
  induction n with
  | zero =>
    have : m = 0 := by omega
    rw [this]
  | succ n ih =>
    by_cases e : m = n + 1
    · rw [e]
    · have hlt : n < o.length := by omega
      rw [List.take_succ_eq_append_getElem hlt, dpF_snoc, show dpI o[n].data.toList (nf o[n].data.toList) (dpF nf (o.take n)) k = dpF nf (o.take n) k from dpI_other _ k (fun e2 => ?_) _ _]
      · exact ih (by omega) (by omega)
      · have s := h n (by simpa using hlt)
        have eo : (o.map tl)[n]'(by simpa using hlt) = tl o[n] := by simp
        have et : (o.map tl).take n = (o.take n).map tl := by rw [List.map_take]
        rw [eo, et] at s
        refine s.new ?_
        rw [show tl o[n] = k from e2.symm]
        obtain ⟨z, hz, e3⟩ := List.mem_map.1 hk
        exact List.mem_map.2 ⟨z, (List.take_subset_take_left o (show m ≤ n by omega)) hz, e3⟩
/-- What the depths of an order are. -/
theorem dpF_spec {nf : List UInt8 → List ByteArray} {ks : List (List UInt8)} {o : List ByteArray} (h : Kn ks (ndT nf) ltK (o.map tl)) {x : ByteArray} (hx : x ∈ o) : (∀ y ∈ nf (tl x), y ∈ o ∧ dpF nf o (tl y) + 1 ≤ dpF nf o (tl x)) ∧ (dpF nf o (tl x) = 0 ∨ ∃ y ∈ nf (tl x), dpF nf o (tl x) = dpF nf o (tl y) + 1) := by
  obtain ⟨i, hi, rfl⟩ := List.mem_iff_getElem.1 hx
  have s := h i (by simpa using hi)
  have eo : (o.map tl)[i]'(by simpa using hi) = tl o[i] := by simp
  have et : (o.map tl).take i = (o.take i).map tl := by rw [List.map_take]
  rw [eo, et] at s
  have hy : ∀ y ∈ nf (tl o[i]), tl y ∈ (o.take i).map tl := fun y hy => s.rdy (tl y) (List.mem_map.2 ⟨y, hy, rfl⟩)
  have hfin : ∀ k, k ∈ (o.take i).map tl → dpF nf o k = dpF nf (o.take i) k := fun k hk => by
    have := dpF_done h i hk o.length (by omega) (Nat.le_refl _)
    rwa [List.take_length] at this
  have hx1 : tl o[i] ∈ (o.take (i + 1)).map tl := by
    rw [List.take_succ_eq_append_getElem hi, List.map_append]
    simp
  have hfx : dpF nf o (tl o[i]) = dpI (tl o[i]) (nf (tl o[i])) (dpF nf (o.take i)) (tl o[i]) := by
    have := dpF_done h (i + 1) hx1 o.length (by omega) (Nat.le_refl _)
    rw [List.take_length] at this
    rw [this, List.take_succ_eq_append_getElem hi, dpF_snoc]
    rfl
  obtain ⟨v1, v2, v3⟩ := dpI_val (tl o[i]) (dpF nf (o.take i)) (nf (tl o[i])) fun y hy2 e => s.new (e ▸ hy y hy2)
  have hx0 : dpF nf (o.take i) (tl o[i]) = 0 := (dpF_le h i (by omega)).2 _ s.new
  refine ⟨fun y hy2 => ⟨?_, ?_⟩, ?_⟩
  · obtain ⟨z, hz, e⟩ := List.mem_map.1 (hy y hy2)
    rw [← tl_ext e]
    exact List.mem_of_mem_take hz
  · rw [hfx, hfin _ (hy y hy2)]
    exact v1 y hy2
  · rw [hfx]
    rcases v2 with v2 | ⟨y, hy2, v2⟩
    · left; rw [v2, hx0]
    · right; exact ⟨y, hy2, by rw [v2, hfin _ (hy y hy2)]⟩
end Go.Proofs.YtankaiopdbcndaaGreatDoor
