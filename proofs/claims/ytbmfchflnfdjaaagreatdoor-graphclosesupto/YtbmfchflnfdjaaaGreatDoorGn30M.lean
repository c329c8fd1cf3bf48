/- Orders, plain: each behind those that it needs; no circle; how deep. -/
import Derived.Test.YtbmfchflnfdjaaaGreatDoorGn29M
namespace Go.Proofs.YtbmfchflnfdjaaaGreatDoor
section
variable {α : Type}
theorem Kn.nodup {ks : List α} {nd : α → List α} {lt : α → α → Bool} {out : List α} (h : Kn ks nd lt out) : out.Nodup := by
  rw [List.nodup_iff_pairwise_ne, List.pairwise_iff_getElem]
  intro i j hi hj hij e
  refine (h j hj).new ?_
  rw [← e]
  exact List.mem_take_iff_getElem.2 ⟨i, by omega, rfl⟩
theorem all_out {ks out : List α} (ho : out.Nodup) (hs : ∀ k ∈ out, k ∈ ks) (hl : out.length = ks.length) : ∀ k ∈ ks, k ∈ out := fun k hk2 => by
  apply Classical.byContradiction
  intro hn
  have := (List.nodup_cons.2 ⟨hn, ho⟩).length_le_of_subset (l₂ := ks) fun j hj => by
    rcases List.mem_cons.1 hj with rfl | hj
    · exact hk2
    · exact hs j hj
  simp at this
  omega
/-- Whom one comes to from one of an order: all stand ahead of it. -/
theorem Kn.ahead {ks : List α} {nd : α → List α} {lt : α → α → Bool} {out : List α} (h : Kn ks nd lt out) (i : Nat) (hi : i < out.length) (b : α) (hb : Rs nd (fun j => j ∈ nd out[i]) b) : b ∈ out.take i := by
  refine hb (fun b => b ∈ out.take i) (fun y hy => (h i hi).rdy y hy) fun a ha y hy => ?_
  obtain ⟨j, hj, rfl⟩ := List.mem_take_iff_getElem.1 ha
  have hj2 : j < i := by omega
  have := (h j (by omega)).rdy y hy
  obtain ⟨m, hm, rfl⟩ := List.mem_take_iff_getElem.1 this
  exact List.mem_take_iff_getElem.2 ⟨m, by omega, rfl⟩
theorem Kn.noLoop {ks : List α} {nd : α → List α} {lt : α → α → Bool} {out : List α} (h : Kn ks nd lt out) {a : α} (ha : a ∈ out) : ¬ Rs nd (fun j => j ∈ nd a) a := fun hb => by
  obtain ⟨i, hi, rfl⟩ := List.mem_iff_getElem.1 ha
  exact (h i hi).new (h.ahead i hi _ hb)
theorem Rs.split {nd : α → List α} {x k : α} (h : Rs nd (fun j => j = x) k) : k = x ∨ Rs nd (fun j => j ∈ nd x) k := by
  refine h (fun k => k = x ∨ Rs nd (fun j => j ∈ nd x) k) (fun _ hj => .inl hj) fun a ha y hy => ?_
  rcases ha with rfl | ha
  · exact .inr (Rs.base hy)
  · exact .inr (Rs.step ha hy)
theorem Rs.join {nd : α → List α} {x k : α} (h : k = x ∨ Rs nd (fun j => j ∈ nd x) k) : Rs nd (fun j => j = x) k := by
  rcases h with rfl | h
  · exact Rs.base rfl
  · exact h.mono fun z hz => Rs.step (Rs.base rfl) hz
/-- The one that all the others are needed for comes last. -/
theorem Kn.last {ks : List α} {nd : α → List α} {lt : α → α → Bool} {out : List α} (h : Kn ks nd lt out) {a : α} (ha : a ∈ out) (hs : ∀ k ∈ out, Rs nd (fun j => j = a) k) (hl : 0 < out.length) : out[out.length - 1] = a := by
  obtain ⟨i, hi, e⟩ := List.mem_iff_getElem.1 ha
  have hlast : i + 1 = out.length := by
    apply Classical.byContradiction
    intro hne
    have hi1 : i + 1 < out.length := by omega
    have hnew := (h (i + 1) hi1).new
    rcases (hs _ (List.getElem_mem hi1)).split with e2 | e2
    · exact hnew (by rw [e2, ← e]; exact List.mem_take_iff_getElem.2 ⟨i, by omega, rfl⟩)
    · rw [← e] at e2
      obtain ⟨m, hm, e3⟩ := List.mem_take_iff_getElem.1 (h.ahead i hi _ e2)
      exact hnew (by rw [← e3]; exact List.mem_take_iff_getElem.2 ⟨m, by omega, rfl⟩)
  rw [← e]
  congr 1
  omega
end
open Go.RowKit Go.Shelf Go.Maps
theorem dpI_other (x : List UInt8) (k : List UInt8) (hk : k ≠ x) : ∀ (nl : List ByteArray) (f : List UInt8 → Int), dpI x nl f k = f k := fun nl f => by
  refine snocInd (P := fun nl => dpI x nl f k = f k) rfl (fun l a ih => ?_) nl
  rw [dpI_snoc]
  unfold updI
  rw [if_neg hk]
  exact ih
theorem dpI_le (x : List UInt8) (m : Int) (f : List UInt8 → Int) (hx : f x ≤ m) : ∀ (nl : List ByteArray), (∀ y ∈ nl, tl y ≠ x ∧ f (tl y) + 1 ≤ m) → dpI x nl f x ≤ m := fun nl => by
  refine snocInd (P := fun nl => (∀ y ∈ nl, tl y ≠ x ∧ f (tl y) + 1 ≤ m) → dpI x nl f x ≤ m) (fun _ => hx) (fun l a ih => ?_) nl
  intro h
  obtain ⟨h1, h2⟩ := h a (by simp)
  rw [dpI_snoc]
  unfold updI
  rw [if_pos rfl, show dpI x l f a.data.toList = f (tl a) from dpI_other x (tl a) h1 l f]
  have := ih fun y hy => h y (List.mem_append_left _ hy)
  omega
/-- No name is deeper than there are names ahead of it. -/
theorem dpF_le {nf : List UInt8 → List ByteArray} {ks : List (List UInt8)} {o : List ByteArray} (h : Kn ks (ndT nf) ltK (o.map tl)) : ∀ n, n ≤ o.length → (∀ k, dpF nf (o.take n) k ≤ 0 ∨ dpF nf (o.take n) k + 1 ≤ (n : Int)) ∧ ∀ k, k ∉ (o.take n).map tl → dpF nf (o.take n) k = 0
  | 0, _ => ⟨fun k => .inl (by simp [dpF]), fun k _ => by simp [dpF]⟩
  | n + 1, hn => by
    obtain ⟨i1, i2⟩ := dpF_le h n (by omega)
    have hlt : n < o.length := by omega
    have s := h n (by simpa using hlt)
    have eo : (o.map tl)[n]'(by simpa using hlt) = tl o[n] := by simp
    have et : (o.map tl).take n = (o.take n).map tl := by rw [List.map_take]
    rw [eo, et] at s
    rw [List.take_succ_eq_append_getElem hlt, dpF_snoc]
    have hx0 := i2 _ s.new
    refine ⟨fun k => ?_, fun k hk => ?_⟩
    · by_cases hk : k = tl o[n]
      · subst hk
        by_cases hne : nf (tl o[n]) = []
        · left
          rw [show nf o[n].data.toList = [] from hne]
          exact Int.le_of_eq hx0
        · right
          have hn1 : 1 ≤ n := by
            obtain ⟨y, ys, e⟩ := List.exists_cons_of_ne_nil hne
            have := s.rdy (tl y) (by unfold ndT; rw [e]; simp)
            rw [List.mem_map] at this
            obtain ⟨z, hz, _⟩ := this
            have := List.length_pos_of_mem hz
            rw [List.length_take] at this
            omega
          have := dpI_le (tl o[n]) (n : Int) (dpF nf (o.take n)) (by rw [hx0]; omega) (nf (tl o[n])) fun y hy => by
            have hy2 := s.rdy (tl y) (List.mem_map.2 ⟨y, hy, rfl⟩)
            refine ⟨fun e => s.new (e ▸ hy2), ?_⟩
            rcases i1 (tl y) with h0 | h0 <;> omega
          have e3 : dpI o[n].data.toList (nf o[n].data.toList) (dpF nf (o.take n)) (tl o[n]) = dpI (tl o[n]) (nf (tl o[n])) (dpF nf (o.take n)) (tl o[n]) := rfl
          rw [e3]
          omega
      · rw [show dpI o[n].data.toList (nf o[n].data.toList) (dpF nf (o.take n)) k = dpF nf (o.take n) k from dpI_other _ k hk _ _]
        rcases i1 k with h0 | h0
        · exact .inl h0
        · exact .inr (by omega)
    · rw [List.map_append, List.mem_append, not_or] at hk
      rw [show dpI o[n].data.toList (nf o[n].data.toList) (dpF nf (o.take n)) k = dpF nf (o.take n) k from dpI_other _ k (fun e => hk.2 (by rw [e]; exact List.mem_singleton.2 (show o[n].data.toList = tl o[n] from rfl))) _ _]
      exact i2 k hk.1
theorem dpF_lt {nf : List UInt8 → List ByteArray} {ks : List (List UInt8)} {o : List ByteArray} (h : Kn ks (ndT nf) ltK (o.map tl)) (hl : 0 < o.length) (k : List UInt8) : dpF nf o k < (o.length : Int) := by
  have := (dpF_le h o.length (Nat.le_refl _)).1 k
  rw [List.take_length] at this
  rcases this with h | h <;> omega
end Go.Proofs.YtbmfchflnfdjaaaGreatDoor
